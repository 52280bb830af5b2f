package addr

import (
	"math/bits"

	"waymark/api"
)

// Cut are the fewest prefixes of the addresses between two.
func Cut(lo, hi api.Addr) ([]api.Prefix, api.Errno) {
	if lo > hi {
		return nil, api.ErrArg
	}
	var list []api.Prefix
	next := cutter(lo, hi)
	for p, more := next(); more; p, more = next() {
		list = append(list, p)
	}
	return list, api.OK
}

// cutter hands out, call by call, the greatest prefix that begins where the last one ended and does not go past hi; false, when nothing is left.
func cutter(lo, hi api.Addr) func() (api.Prefix, bool) {
	// Wider than an address, for the end may be 2^32.
	from, end := uint64(lo), uint64(hi)+1
	return func() (api.Prefix, bool) {
		if from == end {
			return api.Prefix{}, false
		}
		// A prefix begins only at a multiple of its size; 0 is one of every size, which room bounds.
		free := bits.TrailingZeros64(from)
		room := bits.Len64(end-from) - 1
		size := min(free, room)
		p := api.Prefix{Addr: api.Addr(from), Bits: whole - size}
		from += 1 << size
		return p, true
	}
}
