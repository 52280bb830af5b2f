package addr

import (
	"cmp"
	"math/bits"

	"waymark/api"
)

// whole is how many bits an address has.
const whole = 32

// Check says whether a prefix may be.
func Check(p api.Prefix) api.Errno {
	m, e := Mask(p.Bits)
	if e != api.OK {
		return e
	}
	if p.Addr&^m != 0 {
		return api.ErrMask
	}
	return api.OK
}

// In says whether an address is in a prefix; in one that may not be none is.
func In(a api.Addr, p api.Prefix) bool {
	first, last, e := Ends(p)
	return e == api.OK && first <= a && a <= last
}

// Within says whether a prefix is in another one; false, if one of them may not be.
func Within(p, q api.Prefix) bool {
	return Check(p) == api.OK && p.Bits >= q.Bits && In(p.Addr, q)
}

// Cmp is the order of prefixes: by address, then by bits.
func Cmp(p, q api.Prefix) int {
	if c := cmp.Compare(p.Addr, q.Addr); c != 0 {
		return c
	}
	return cmp.Compare(p.Bits, q.Bits)
}

// Mask is the mask of so many bits.
func Mask(bits int) (api.Addr, api.Errno) {
	if bits < 0 || bits > whole {
		return 0, api.ErrArg
	}
	return ^api.Addr(0) << (whole - bits), api.OK
}

// Bits is of how many bits a mask is.
func Bits(mask api.Addr) (int, api.Errno) {
	n := bits.LeadingZeros32(^uint32(mask))
	if m, _ := Mask(n); m != mask {
		return 0, api.ErrMask
	}
	return n, api.OK
}

// Subnet is the prefix of so many bits in which an address is.
func Subnet(a api.Addr, bits int) (api.Prefix, api.Errno) {
	m, e := Mask(bits)
	if e != api.OK {
		return api.Prefix{}, e
	}
	return api.Prefix{Addr: a & m, Bits: bits}, api.OK
}

// Ends are a prefix's least and greatest address.
func Ends(p api.Prefix) (first, last api.Addr, e api.Errno) {
	if e = Check(p); e != api.OK {
		return 0, 0, e
	}
	m, e := Mask(p.Bits)
	return p.Addr, p.Addr | ^m, e
}

// Halves are the two prefixes in one.
func Halves(p api.Prefix) (low, high api.Prefix, e api.Errno) {
	_, last, e := Ends(p)
	if e != api.OK {
		return api.Prefix{}, api.Prefix{}, e
	}
	if p.Bits == whole {
		return api.Prefix{}, api.Prefix{}, api.ErrNone
	}
	low = api.Prefix{Addr: p.Addr, Bits: p.Bits + 1}
	high, e = Subnet(last, p.Bits+1)
	return low, high, e
}

// Common is the prefix of the most bits in which both are.
func Common(p, q api.Prefix) (api.Prefix, api.Errno) {
	if e := Check(p); e != api.OK {
		return api.Prefix{}, e
	}
	if e := Check(q); e != api.OK {
		return api.Prefix{}, e
	}
	alike := bits.LeadingZeros32(uint32(p.Addr ^ q.Addr))
	return Subnet(p.Addr, min(p.Bits, q.Bits, alike))
}
