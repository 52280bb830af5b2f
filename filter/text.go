package filter

import (
	"strconv"
	"strings"

	"waymark/addr"
	"waymark/api"
)

// Words of a rule's text, and how many it has.
const (
	permitWord = "permit"
	denyWord   = "deny"
	anyWord    = "any"
	words      = 6
)

// Text is a rule's text.
func Text(r api.Rule) (string, api.Errno) {
	if !ruleMay(r) {
		return "", api.ErrModel
	}
	list := [words]string{actionText(r.Permit), protoText(r.Proto), addr.PrefixText(r.Src), addr.PrefixText(r.Dst), portsText(r.SrcPorts), portsText(r.DstPorts)}
	return strings.Join(list[:], " "), api.OK
}

// Parse is the rule of a text.
func Parse(s string) (api.Rule, api.Errno) {
	// One more than a rule's words, not all of a text that has too many.
	list := strings.SplitN(s, " ", words+1)
	if len(list) != words {
		return api.Rule{}, api.ErrForm
	}
	r := read([words]string(list))
	// The words were not asked whether they may stand where they do: if one may not, what was read has another text, or none.
	if text, e := Text(r); e != api.OK || text != s {
		return api.Rule{}, api.ErrForm
	}
	return r, api.OK
}

// read reads words as a rule's, also if they are none.
func read(list [words]string) api.Rule {
	r := api.Rule{Permit: list[0] == permitWord, Proto: proto(list[1])}
	r.Src, _ = addr.ParsePrefix(list[2])
	r.Dst, _ = addr.ParsePrefix(list[3])
	r.SrcPorts, r.DstPorts = ports(list[4]), ports(list[5])
	return r
}

// actionText is the word for what a rule does.
func actionText(permit bool) string {
	if permit {
		return permitWord
	}
	return denyWord
}

// protoText is the word for a rule's protocol.
func protoText(n int) string {
	if n == anyProto {
		return anyWord
	}
	return strconv.Itoa(n)
}

// proto reads a word as a rule's protocol.
func proto(word string) int {
	if word == anyWord {
		return anyProto
	}
	return int(number(word))
}

// portsText is the word for a span of ports.
func portsText(x api.Span) string {
	return strconv.Itoa(int(x.Lo)) + "-" + strconv.Itoa(int(x.Hi))
}

// ports reads a word as a span of ports.
func ports(word string) api.Span {
	lo, hi, _ := strings.Cut(word, "-")
	return api.Span{Lo: number(lo), Hi: number(hi)}
}

// number reads a word as a number that a rule may have, also if it tells none.
func number(word string) uint32 {
	n, _ := strconv.ParseUint(word, 10, 16)
	return uint32(n)
}
