package trie_test

import (
	"math"
	"slices"
	"testing"

	"waymark/api"
	"waymark/trie"
)

// block puts behind a list the fewest prefixes of the marked parts: the whole, if all are marked, else those of its halves.
func block(list []api.Prefix, marked []bool, at uint64, bits int) []api.Prefix {
	if !slices.Contains(marked, false) {
		return append(list, api.Prefix{Addr: api.Addr(at), Bits: bits})
	}
	if len(marked) == 1 {
		return list
	}
	half := len(marked) / 2
	list = block(list, marked[:half], at, bits+1)
	return block(list, marked[half:], at+uint64(1)<<(31-bits), bits+1)
}

// P4.3, P4.6: all lists of prefixes of eight addresses, at both ends of the bits, backward too, and each one twice.
func TestAllSmallCovers(t *testing.T) {
	for _, whole := range []bool{false, true} {
		l := small(3, whole)
		begin, step := 29, uint64(1)
		if whole {
			begin, step = 0, 1<<29
		}
		for set := range 1 << len(l) {
			var list []api.Prefix
			marked := make([]bool, 8)
			for i, p := range l {
				if set>>i&1 == 0 {
					continue
				}
				list = append(list, p)
				for k := range marked {
					marked[k] = marked[k] || in(api.Addr(uint64(k)*step), p)
				}
			}
			want := block(nil, marked, 0, begin)
			if got := trie.Cover(list); !slices.Equal(got, want) {
				t.Fatalf("Cover(%v): %v, not %v", list, got, want)
			}
			slices.Reverse(list)
			if got := trie.Cover(append(list, list...)); !slices.Equal(got, want) {
				t.Fatalf("Cover(%v), twice: %v, not %v", list, got, want)
			}
		}
	}
}

// P4.3: the chapter's example, and lists of few.
func TestCover(t *testing.T) {
	ten := func(second api.Addr, bits int) api.Prefix {
		return api.Prefix{Addr: 0x0A000000 | second<<16, Bits: bits}
	}
	cases := []struct{ list, want []api.Prefix }{
		{nil, nil},
		{[]api.Prefix{}, nil},
		{[]api.Prefix{ten(0, 9), ten(128, 9), ten(1, 16)}, []api.Prefix{ten(0, 8)}},
		{[]api.Prefix{ten(1, 16)}, []api.Prefix{ten(1, 16)}},
		{[]api.Prefix{ten(1, 16), ten(2, 16)}, []api.Prefix{ten(1, 16), ten(2, 16)}},
		{[]api.Prefix{ten(3, 16), ten(2, 16)}, []api.Prefix{ten(2, 15)}},
		{[]api.Prefix{ten(0, 9), ten(128, 10), ten(192, 11), ten(224, 11)}, []api.Prefix{ten(0, 8)}},
		{[]api.Prefix{ten(0, 10), ten(128, 10)}, []api.Prefix{ten(0, 10), ten(128, 10)}},
		{[]api.Prefix{{}, ten(0, 8)}, []api.Prefix{{}}},
		{[]api.Prefix{{Addr: math.MaxUint32, Bits: 32}, {Bits: 32}}, []api.Prefix{{Bits: 32}, {Addr: math.MaxUint32, Bits: 32}}},
		{[]api.Prefix{{Addr: 0x80000000, Bits: 1}, {Bits: 1}}, []api.Prefix{{}}},
	}
	for _, c := range cases {
		if got := trie.Cover(c.list); !slices.Equal(got, c.want) {
			t.Errorf("Cover(%v): %v", c.list, got)
		}
	}
}

// P4.3: what may not be has no addresses, and takes none from others.
func TestCoverOfWhatMayNotBe(t *testing.T) {
	wrong := []api.Prefix{{Addr: 0x0A000001, Bits: 8}, {Addr: 1}, {Bits: 33}, {Bits: -1}, {Bits: math.MaxInt}, {Addr: 0x0A000000, Bits: math.MinInt}}
	if got := trie.Cover(wrong); len(got) != 0 {
		t.Error(got)
	}
	good := api.Prefix{Addr: 0x0A000000, Bits: 9}
	for i := range len(wrong) + 1 {
		if got := trie.Cover(slices.Insert(slices.Clone(wrong), i, good)); !slices.Equal(got, []api.Prefix{good}) {
			t.Error(i, got)
		}
	}
}

// P4.6: the hosts of a run that begins and ends oddly, each by itself, in another order: as few as can be, none in two.
func TestCoverOfHosts(t *testing.T) {
	const hosts = 1021
	var list []api.Prefix
	for i := range hosts {
		list = append(list, api.Prefix{Addr: api.Addr(0x0A000003 + i*512%hosts), Bits: 32})
	}
	got := trie.Cover(list)
	next := uint64(0x0A000003)
	for i, p := range got {
		size := uint64(1) << (32 - p.Bits)
		if uint64(p.Addr) != next || next%size != 0 {
			t.Fatal(i, p)
		}
		if i > 0 && got[i-1].Bits == p.Bits && in(got[i-1].Addr, api.Prefix{Addr: p.Addr, Bits: p.Bits - 1}) {
			t.Error("two halves of one:", got[i-1], p)
		}
		next += size
	}
	if next != 0x0A000003+hosts {
		t.Errorf("%08x", next)
	}
}

// R3: what is handed in stays as it is, with the room behind its end; what is handed out is new.
func TestCoverShares(t *testing.T) {
	room := []api.Prefix{{Addr: 0x80000000, Bits: 1}, {Bits: 2}, {Bits: 32}, {Bits: 1}, {Addr: 7, Bits: 3}}
	before := slices.Clone(room)
	first, second := trie.Cover(room[:2]), trie.Cover(room[:2])
	want := []api.Prefix{{Bits: 2}, {Addr: 0x80000000, Bits: 1}}
	if !slices.Equal(first, want) || !slices.Equal(second, want) {
		t.Fatal(first, second)
	}
	for i := range first[:cap(first)] {
		first[:cap(first)][i] = api.Prefix{Bits: 5}
	}
	if !slices.Equal(second, want) || !slices.Equal(room, before) || !slices.Equal(trie.Cover(room[:2]), want) {
		t.Error(room, second)
	}
}
