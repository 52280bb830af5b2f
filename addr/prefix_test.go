package addr

import (
	"math"
	"testing"

	"waymark/api"
)

// plainMask is the mask of n bits, set bit by bit.
func plainMask(n int) api.Addr {
	var m api.Addr
	for i := range n {
		m |= 1 << (31 - i)
	}
	return m
}

// plainIn tells, bit by bit, whether the first Bits bits of a are those of p.
func plainIn(a api.Addr, p api.Prefix) bool {
	for i := range p.Bits {
		if a>>(31-i)&1 != p.Addr>>(31-i)&1 {
			return false
		}
	}
	return true
}

// family is all prefixes in which an edge is, each once, the order of the edges kept.
func family() []api.Prefix {
	var list []api.Prefix
	seen := map[api.Prefix]bool{}
	for _, a := range edges() {
		for n := range 33 {
			p := api.Prefix{Addr: a & plainMask(n), Bits: n}
			if !seen[p] {
				seen[p] = true
				list = append(list, p)
			}
		}
	}
	return list
}

// small is all prefixes within 10.0.0.0/27, a few around it, and those at both ends of the space: few enough for three at a time.
func small() []api.Prefix {
	var list []api.Prefix
	for n := 27; n <= 32; n++ {
		for a := api.Addr(0); a < 32; a += 1 << (32 - n) {
			list = append(list, api.Prefix{Addr: 0x0A000000 + a, Bits: n})
		}
	}
	for n := range 27 {
		list = append(list, api.Prefix{Addr: 0x0A000000 & plainMask(n), Bits: n})
	}
	return append(list, api.Prefix{Bits: 32}, api.Prefix{Addr: 0xFFFFFFFF, Bits: 32}, api.Prefix{Addr: 0x80000000, Bits: 1},
		api.Prefix{Addr: 0x0A000020, Bits: 27}, api.Prefix{Addr: 0x0B000000, Bits: 8})
}

// unfit is prefixes that may not be, each with what Check says of it.
func unfit() map[api.Prefix]api.Errno {
	return map[api.Prefix]api.Errno{
		{Bits: -1}:                       api.ErrArg,
		{Bits: 33}:                       api.ErrArg,
		{Bits: 64}:                       api.ErrArg,
		{Bits: math.MaxInt}:              api.ErrArg,
		{Bits: math.MinInt}:              api.ErrArg,
		{Addr: 1, Bits: -1}:              api.ErrArg,
		{Addr: 0xFFFFFFFF, Bits: 33}:     api.ErrArg,
		{Addr: 0x0A000001, Bits: 1 << 8}: api.ErrArg,
		{Addr: 1, Bits: 0}:               api.ErrMask,
		{Addr: 0x80000000, Bits: 0}:      api.ErrMask,
		{Addr: 0x0A000001, Bits: 8}:      api.ErrMask,
		{Addr: 1, Bits: 31}:              api.ErrMask,
		{Addr: 0xFFFFFFFF, Bits: 31}:     api.ErrMask,
	}
}

// P1.1: which prefixes may be.
func TestCheck(t *testing.T) {
	for _, p := range family() {
		if e := Check(p); e != api.OK {
			t.Errorf("Check(%v): %v", p, e)
		}
	}
	for p, want := range unfit() {
		if e := Check(p); e != want {
			t.Errorf("Check(%v): %v, not %v", p, e, want)
		}
	}
	for _, a := range edges() {
		for n := range 33 {
			want := api.OK
			if a&plainMask(n) != a {
				want = api.ErrMask
			}
			if e := Check(api.Prefix{Addr: a, Bits: n}); e != want {
				t.Errorf("Check(%08x/%d): %v, not %v", a, n, e, want)
			}
		}
	}
}

// P1.2: which addresses are in a prefix.
func TestIn(t *testing.T) {
	known := []struct {
		addr   api.Addr
		prefix api.Prefix
		in     bool
	}{
		{0x0A010203, api.Prefix{Addr: 0x0A000000, Bits: 8}, true},
		{0x09FFFFFF, api.Prefix{Addr: 0x0A000000, Bits: 8}, false},
		{0x0AFFFFFF, api.Prefix{Addr: 0x0A000000, Bits: 8}, true},
		{0x0B000000, api.Prefix{Addr: 0x0A000000, Bits: 8}, false},
		{0, api.Prefix{}, true},
		{0xFFFFFFFF, api.Prefix{}, true},
		{0xFFFFFFFF, api.Prefix{Addr: 0xFFFFFFFF, Bits: 32}, true},
		{0xFFFFFFFE, api.Prefix{Addr: 0xFFFFFFFF, Bits: 32}, false},
		{1, api.Prefix{Bits: 32}, false},
	}
	for _, k := range known {
		if in := In(k.addr, k.prefix); in != k.in {
			t.Errorf("In(%08x, %v): %v", k.addr, k.prefix, in)
		}
	}
	for _, p := range family() {
		for _, a := range edges() {
			if in := In(a, p); in != plainIn(a, p) {
				t.Errorf("In(%08x, %v): %v", a, p, in)
			}
		}
	}
	for p := range unfit() {
		for _, a := range append(edges(), p.Addr) {
			if In(a, p) {
				t.Errorf("In(%08x, %v): true", a, p)
			}
		}
	}
}

// P1.2: which prefixes are in another one; none is with one that may not be.
func TestWithin(t *testing.T) {
	ten, tenOne := api.Prefix{Addr: 0x0A000000, Bits: 8}, api.Prefix{Addr: 0x0A010000, Bits: 16}
	if !Within(tenOne, ten) || Within(ten, tenOne) || !Within(ten, ten) || !Within(ten, api.Prefix{}) || Within(api.Prefix{}, ten) {
		t.Error("Within: 10.0.0.0/8, 10.1.0.0/16, 0.0.0.0/0")
	}
	for _, p := range small() {
		for _, q := range small() {
			want := plainIn(p.Addr, q) && p.Bits >= q.Bits
			if in := Within(p, q); in != want {
				t.Errorf("Within(%v, %v): %v", p, q, in)
			}
		}
	}
	for p := range unfit() {
		if Within(p, p) {
			t.Errorf("Within(%v, itself): true", p)
		}
		for _, q := range small() {
			if Within(p, q) || Within(q, p) {
				t.Errorf("Within: %v and %v: true", p, q)
			}
		}
	}
}

// P1.2: by address, then by bits, also where the prefixes may not be.
func TestCmp(t *testing.T) {
	list := []api.Prefix{
		{Bits: math.MinInt}, {Bits: -1}, {Bits: 0}, {Bits: 1}, {Bits: 32}, {Bits: 33}, {Bits: math.MaxInt}, {Addr: 1, Bits: -5}, {Addr: 1, Bits: 32},
		{Addr: 0x0A000000, Bits: 7}, {Addr: 0x0A000000, Bits: 8}, {Addr: 0x0A000000, Bits: 24}, {Addr: 0x0A000100, Bits: 24},
		{Addr: 0x7FFFFFFF, Bits: 32}, {Addr: 0x80000000, Bits: 1}, {Addr: 0xFFFFFFFF, Bits: 0}, {Addr: 0xFFFFFFFF, Bits: 32},
	}
	for i, p := range list {
		for k, q := range list {
			want := 0
			if i < k {
				want = -1
			} else if i > k {
				want = 1
			}
			if c := Cmp(p, q); c != want {
				t.Errorf("Cmp(%v, %v): %d", p, q, c)
			}
		}
	}
}

// P1.3: masks, and of how many bits they are (P1.5).
func TestMasks(t *testing.T) {
	masks := map[api.Addr]bool{}
	for n := range 33 {
		m, e := Mask(n)
		masks[m] = true
		if m != plainMask(n) || e != api.OK {
			t.Errorf("Mask(%d): %08x %v", n, m, e)
		}
		if k, e := Bits(m); k != n || e != api.OK {
			t.Errorf("Bits(%08x): %d %v", m, k, e)
		}
	}
	for _, n := range []int{-1, 33, 64, 1 << 32, math.MaxInt, math.MinInt} {
		if m, e := Mask(n); m != 0 || e != api.ErrArg {
			t.Errorf("Mask(%d): %08x %v", n, m, e)
		}
	}
	for _, m := range append(edges(), 0xFF00FF00, 0xFFFFFF01, 0x000000FF, 0xFFFF00FF) {
		if n, e := Bits(m); !masks[m] && (n != 0 || e != api.ErrMask) {
			t.Errorf("Bits(%08x): %d %v", m, n, e)
		}
	}
}

// P1.3: the prefix of so many bits in which an address is.
func TestSubnet(t *testing.T) {
	if p, e := Subnet(0x0A010203, 24); p != (api.Prefix{Addr: 0x0A010200, Bits: 24}) || e != api.OK {
		t.Errorf("Subnet: %v %v", p, e)
	}
	for _, a := range edges() {
		for n := range 33 {
			p, e := Subnet(a, n)
			if p != (api.Prefix{Addr: a & plainMask(n), Bits: n}) || e != api.OK {
				t.Errorf("Subnet(%08x, %d): %v %v", a, n, p, e)
			}
		}
		for _, n := range []int{-1, 33, math.MaxInt, math.MinInt} {
			if p, e := Subnet(a, n); p != (api.Prefix{}) || e != api.ErrArg {
				t.Errorf("Subnet(%08x, %d): %v %v", a, n, p, e)
			}
		}
	}
}

// P1.3: a prefix's first and last address.
func TestEnds(t *testing.T) {
	for _, p := range family() {
		first, last, e := Ends(p)
		if first != p.Addr || uint64(last) != uint64(p.Addr)+1<<(32-p.Bits)-1 || e != api.OK {
			t.Errorf("Ends(%v): %08x %08x %v", p, first, last, e)
		}
	}
	for p, want := range unfit() {
		if first, last, e := Ends(p); first != 0 || last != 0 || e != want {
			t.Errorf("Ends(%v): %08x %08x %v", p, first, last, e)
		}
	}
}

// P1.3: a prefix's halves; each address of the whole is in just one of them, and no other one in any (P1.6).
func TestHalves(t *testing.T) {
	low, high, e := Halves(api.Prefix{Addr: 0x0A000000, Bits: 8})
	if low != (api.Prefix{Addr: 0x0A000000, Bits: 9}) || high != (api.Prefix{Addr: 0x0A800000, Bits: 9}) || e != api.OK {
		t.Errorf("Halves: %v %v %v", low, high, e)
	}
	for _, p := range family() {
		low, high, e := Halves(p)
		if p.Bits == 32 {
			if low != (api.Prefix{}) || high != (api.Prefix{}) || e != api.ErrNone {
				t.Errorf("Halves(%v): %v %v %v", p, low, high, e)
			}
			continue
		}
		middle := p.Addr + 1<<(31-p.Bits)
		if low != (api.Prefix{Addr: p.Addr, Bits: p.Bits + 1}) || high != (api.Prefix{Addr: middle, Bits: p.Bits + 1}) || e != api.OK {
			t.Errorf("Halves(%v): %v %v %v", p, low, high, e)
		}
		for _, a := range append(edges(), middle-1, middle, p.Addr) {
			inLow, inHigh := In(a, low), In(a, high)
			if inLow && inHigh || (inLow || inHigh) != In(a, p) {
				t.Errorf("%08x in the halves of %v: %v %v", a, p, inLow, inHigh)
			}
		}
	}
	for p, want := range unfit() {
		if low, high, e := Halves(p); low != (api.Prefix{}) || high != (api.Prefix{}) || e != want {
			t.Errorf("Halves(%v): %v %v %v", p, low, high, e)
		}
	}
}

// P1.3: the prefix of the most bits in which both are.
func TestCommon(t *testing.T) {
	known := []struct{ p, q, both api.Prefix }{
		{api.Prefix{Addr: 0x0A010000, Bits: 16}, api.Prefix{Addr: 0x0A030000, Bits: 16}, api.Prefix{Addr: 0x0A000000, Bits: 14}},
		{api.Prefix{Addr: 0x0A000000, Bits: 8}, api.Prefix{Addr: 0x0A000000, Bits: 24}, api.Prefix{Addr: 0x0A000000, Bits: 8}},
		{api.Prefix{Bits: 32}, api.Prefix{Addr: 0xFFFFFFFF, Bits: 32}, api.Prefix{}},
		{api.Prefix{Addr: 6, Bits: 32}, api.Prefix{Addr: 7, Bits: 32}, api.Prefix{Addr: 6, Bits: 31}},
		{api.Prefix{Addr: 7, Bits: 32}, api.Prefix{Addr: 7, Bits: 32}, api.Prefix{Addr: 7, Bits: 32}},
	}
	for _, k := range known {
		if both, e := Common(k.p, k.q); both != k.both || e != api.OK {
			t.Errorf("Common(%v, %v): %v %v", k.p, k.q, both, e)
		}
	}
	for _, p := range small() {
		for _, q := range small() {
			want := api.Prefix{}
			for n := range min(p.Bits, q.Bits) + 1 {
				if wider := (api.Prefix{Addr: p.Addr & plainMask(n), Bits: n}); plainIn(q.Addr, wider) {
					want = wider
				}
			}
			if both, e := Common(p, q); both != want || e != api.OK {
				t.Errorf("Common(%v, %v): %v %v", p, q, both, e)
			}
		}
	}
}

// P1.3: Common answers what Check says of the first, then of the second.
func TestCommonRefused(t *testing.T) {
	fit := api.Prefix{Addr: 0x0A000000, Bits: 8}
	for p, first := range unfit() {
		if both, e := Common(p, fit); both != (api.Prefix{}) || e != first {
			t.Errorf("Common(%v, %v): %v %v", p, fit, both, e)
		}
		if both, e := Common(fit, p); both != (api.Prefix{}) || e != first {
			t.Errorf("Common(%v, %v): %v %v", fit, p, both, e)
		}
		for q := range unfit() {
			if both, e := Common(p, q); both != (api.Prefix{}) || e != first {
				t.Errorf("Common(%v, %v): %v %v", p, q, both, e)
			}
		}
	}
}

// P1.6: Within is an order.
func TestWithinIsAnOrder(t *testing.T) {
	list := small()
	for _, p := range list {
		if !Within(p, p) {
			t.Errorf("%v is not in itself", p)
		}
		for _, q := range list {
			if p != q && Within(p, q) && Within(q, p) {
				t.Errorf("%v and %v are in each other", p, q)
			}
			for _, r := range list {
				if Within(p, q) && Within(q, r) && !Within(p, r) {
					t.Errorf("%v is in %v, that in %v, but not the first in the last", p, q, r)
				}
			}
		}
	}
}

// P1.6: p is in q just if both its ends are; of two prefixes one is in the other, or no address is in both.
func TestWithinByEnds(t *testing.T) {
	list := family()
	for _, p := range list {
		first, last, _ := Ends(p)
		for _, q := range list {
			if in := Within(p, q); in != (In(first, q) && In(last, q)) {
				t.Errorf("Within(%v, %v): %v", p, q, in)
			}
			low, high, _ := Ends(q)
			apart := last < low || high < first
			if nested := Within(p, q) || Within(q, p); nested == apart {
				t.Errorf("%v and %v: nested %v, apart %v", p, q, nested, apart)
			}
		}
	}
	for q := range unfit() {
		one := api.Prefix{Addr: q.Addr, Bits: 32}
		if Within(one, q) != In(q.Addr, q) {
			t.Errorf("%v in %v: its ends say otherwise", one, q)
		}
	}
}
