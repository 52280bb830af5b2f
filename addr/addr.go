// Package addr is layer 1: addresses and prefixes; see shared/doc/01-addr.md.
package addr

import (
	"strconv"
	"strings"

	"waymark/api"
)

// Parse is the address of a text.
func Parse(s string) (api.Addr, api.Errno) {
	var a api.Addr
	rest := s
	for i := range 4 {
		part, behind, dot := strings.Cut(rest, ".")
		n, ok := number(part, 255)
		if last := i == 3; !ok || dot == last {
			return 0, api.ErrForm
		}
		a = a<<8 | api.Addr(n)
		rest = behind
	}
	return a, api.OK
}

// Text is an address's text.
func Text(a api.Addr) string {
	var b []byte
	for i := range 4 {
		if i > 0 {
			b = append(b, '.')
		}
		b = strconv.AppendUint(b, uint64(a>>(24-8*i)&0xFF), 10)
	}
	return string(b)
}

// ParsePrefix is the prefix of a text.
func ParsePrefix(s string) (api.Prefix, api.Errno) {
	ahead, behind, slash := strings.Cut(s, "/")
	a, e := Parse(ahead)
	n, ok := number(behind, 32)
	if e != api.OK || !slash || !ok {
		return api.Prefix{}, api.ErrForm
	}
	p := api.Prefix{Addr: a, Bits: n}
	if e := Check(p); e != api.OK {
		return api.Prefix{}, e
	}
	return p, api.OK
}

// PrefixText is a prefix's text.
func PrefixText(p api.Prefix) string {
	return Text(p.Addr) + "/" + strconv.Itoa(p.Bits)
}

// number reads a whole text as a number from 0 to top, without noughts ahead.
func number(s string, top int) (int, bool) {
	if s == "" || len(s) > 1 && s[0] == '0' {
		return 0, false
	}
	n := 0
	for i := range len(s) {
		c := s[i]
		if c < '0' || c > '9' {
			return 0, false
		}
		n = n*10 + int(c-'0')
		// Asked at each digit, so that n cannot wrap round however long the text is.
		if n > top {
			return 0, false
		}
	}
	return n, true
}
