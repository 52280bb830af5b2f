package flat

import (
	"math/bits"

	"waymark/api"
)

// Numbers that a text may say, and those that hold where it says none.
const (
	none      = -1
	anyCost   = 10
	anyDist   = 1
	anyType   = 2
	topNumber = 1 << 24 // of areas, metrics, preferences and tags
	topCost   = 65535
	topSeq    = 65535
	topDist   = 255
	topProto  = 255
	topPort   = 65535
	topBits   = 32
)

// The protocols that have names.
const (
	icmp = 1
	tcp  = 6
	udp  = 17
)

// ported tells whether a protocol's rules may speak of ports.
func ported(proto int) bool { return proto == tcp || proto == udp }

// allPorts are the ports of which a rule speaks that says none.
func allPorts() api.Span { return api.Span{Hi: topPort} }

// sides are the words of where routes are taken over from, each at the place of its bit.
func sides() []string { return []string{"connected", "static", "ospf", "bgp"} }

// sideOf is the bit of a side's word.
func sideOf(word string) uint8 {
	for i, w := range sides() {
		if w == word {
			return 1 << i
		}
	}
	return 0
}

// sideWord is the word of a side's bit.
func sideWord(side uint8) string { return sides()[bits.TrailingZeros8(side)] }

// actions are the words of what a clause does, each at the place of its number.
func actions() []string { return []string{"deny", "permit", "next"} }

// actionOf is the number of an action's word.
func actionOf(word string) uint8 {
	for i, w := range actions() {
		if w == word {
			return uint8(i)
		}
	}
	return 0
}
