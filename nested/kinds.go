package nested

import (
	"math/bits"
	"slices"

	"waymark/api"
)

// Numbers that a text may say, and those that hold where it says none.
const (
	none      = -1
	anyCost   = 1
	anyDist   = 5
	anyType   = 2
	seqStep   = 10
	topNumber = 1 << 24 // of areas, metrics, preferences and tags
	topCost   = 65535
	topDist   = 255
	topProto  = 255
	topPort   = 65535
	topBits   = 32
)

// The protocols that have names.
const (
	icmp = 1
	tcp  = 6
	udp  = 17
)

// allPorts are the ports of which a rule speaks that says none.
func allPorts() api.Span { return api.Span{Hi: topPort} }

// sides are the words of where routes are taken over from, each at the place of its bit.
func sides() []string { return []string{"direct", "static", "ospf", "bgp"} }

// sideOf is the bit of a side's word; of a word that is refused, any.
func sideOf(word string) uint8 { return 1 << max(0, slices.Index(sides(), word)) }

// sideWord is the word of a side's bit.
func sideWord(side uint8) string { return sides()[bits.TrailingZeros8(side)] }

// actions are the words of what a clause does, each at the place of its number.
func actions() []string { return []string{"reject", "accept", "next"} }

// actionOf is the number of an action's word.
func actionOf(word string) uint8 { return uint8(slices.Index(actions(), word)) }
