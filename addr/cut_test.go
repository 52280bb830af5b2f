package addr

import (
	"testing"

	"waymark/api"
)

// checkCut says what of P1.4 and P1.7 does not hold of Cut(lo, hi), and answers what was told.
func checkCut(t *testing.T, lo, hi api.Addr) []api.Prefix {
	list, e := Cut(lo, hi)
	if e != api.OK || len(list) == 0 || len(list) > 62 {
		t.Errorf("Cut(%08x, %08x): %d prefixes, %v", lo, hi, len(list), e)
		return nil
	}
	next := uint64(lo)
	for i, p := range list {
		// One behind the other without a gap: each address is in just one, and they rise.
		if p.Bits < 0 || p.Bits > 32 || p.Addr&plainMask(p.Bits) != p.Addr || uint64(p.Addr) != next {
			t.Errorf("Cut(%08x, %08x): %v at %d", lo, hi, p, i)
			return nil
		}
		next += 1 << (32 - p.Bits)
		if i == 0 {
			continue
		}
		if before := list[i-1]; before.Bits == p.Bits && before.Addr == p.Addr&plainMask(p.Bits-1) {
			t.Errorf("Cut(%08x, %08x): %v and %v are halves of one", lo, hi, before, p)
		}
	}
	if next != uint64(hi)+1 {
		t.Errorf("Cut(%08x, %08x): ends ahead of %x", lo, hi, next)
	}
	return list
}

// fewest is of how few prefixes the size addresses from lo on can be, for all sizes up to most.
func fewest(lo api.Addr, most int) []int {
	few := make([]int, most+1)
	for size := 1; size <= most; size++ {
		few[size] = size
		for last := 1; last <= size; last *= 2 {
			if begin := uint64(lo) + uint64(size-last); begin%uint64(last) == 0 {
				few[size] = min(few[size], few[size-last]+1)
			}
		}
	}
	return few
}

// P1.4: the examples and the whole space.
func TestCutKnown(t *testing.T) {
	known := []struct {
		lo, hi api.Addr
		list   []api.Prefix
	}{
		{0x0A000001, 0x0A000004, []api.Prefix{{Addr: 0x0A000001, Bits: 32}, {Addr: 0x0A000002, Bits: 31}, {Addr: 0x0A000004, Bits: 32}}},
		{0, 0xFFFFFFFF, []api.Prefix{{}}},
		{0, 0, []api.Prefix{{Bits: 32}}},
		{0xFFFFFFFF, 0xFFFFFFFF, []api.Prefix{{Addr: 0xFFFFFFFF, Bits: 32}}},
		{0x80000000, 0xFFFFFFFF, []api.Prefix{{Addr: 0x80000000, Bits: 1}}},
		{0, 0x7FFFFFFF, []api.Prefix{{Bits: 1}}},
		{0x7FFFFFFF, 0x80000000, []api.Prefix{{Addr: 0x7FFFFFFF, Bits: 32}, {Addr: 0x80000000, Bits: 32}}},
		{0x0A000000, 0x0BFFFFFF, []api.Prefix{{Addr: 0x0A000000, Bits: 7}}},
		{0x0B000000, 0x0CFFFFFF, []api.Prefix{{Addr: 0x0B000000, Bits: 8}, {Addr: 0x0C000000, Bits: 8}}},
	}
	for _, k := range known {
		list := checkCut(t, k.lo, k.hi)
		same := len(list) == len(k.list)
		for i := 0; same && i < len(list); i++ {
			same = list[i] == k.list[i]
		}
		if !same {
			t.Errorf("Cut(%08x, %08x): %v, not %v", k.lo, k.hi, list, k.list)
		}
	}
}

// P1.4: nothing from an address to a lesser one.
func TestCutRefused(t *testing.T) {
	for _, k := range [][2]api.Addr{{1, 0}, {0xFFFFFFFF, 0}, {0xFFFFFFFF, 0xFFFFFFFE}, {0x80000000, 0x7FFFFFFF}} {
		if list, e := Cut(k[0], k[1]); len(list) != 0 || e != api.ErrArg {
			t.Errorf("Cut(%08x, %08x): %v %v", k[0], k[1], list, e)
		}
	}
}

// P1.4: as few as can be, at both ends of the space and at an everyday place.
func TestCutFewest(t *testing.T) {
	const most = 80
	for _, base := range []api.Addr{0, 0x0A000000 - 40, 0x7FFFFFD8, 0xFFFFFFFF - most + 1} {
		for lo := base; lo-base < most; lo++ {
			room := most - int(lo-base)
			few := fewest(lo, room)
			for size := 1; size <= room; size++ {
				hi := lo + api.Addr(size-1)
				if list := checkCut(t, lo, hi); len(list) != few[size] {
					t.Errorf("Cut(%08x, %08x): %d prefixes, not %d", lo, hi, len(list), few[size])
				}
			}
		}
	}
}

// P1.7: between all edges.
func TestCutBetweenEdges(t *testing.T) {
	for _, lo := range edges() {
		for _, hi := range edges() {
			if lo <= hi {
				checkCut(t, lo, hi)
			}
		}
	}
}

// P1.7: the worst is 62 prefixes.
func TestCutMost(t *testing.T) {
	if list := checkCut(t, 1, 0xFFFFFFFE); len(list) != 62 {
		t.Errorf("%d prefixes", len(list))
	}
}

// P1.4: what is handed out is the caller's own.
func TestCutHandedOut(t *testing.T) {
	one, _ := Cut(1, 100)
	for i := range one[:cap(one)] {
		one[:cap(one)][i] = api.Prefix{Addr: 9, Bits: 9}
	}
	checkCut(t, 1, 100)
}
