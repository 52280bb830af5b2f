package lists_test

import (
	"math"
	"math/rand"
	"slices"
	"testing"

	"waymark/api"
	"waymark/lists"
)

var ten = api.Prefix{Addr: 0x0A000000, Bits: 8}

// prefixes are some in one another, some beside, and some that may not be.
var prefixes = []api.Prefix{
	{}, {Bits: 1}, {Bits: 8}, {Bits: 32}, {Addr: 1 << 31, Bits: 1}, {Addr: 1 << 31, Bits: 32}, {Addr: math.MaxUint32, Bits: 32}, {Addr: math.MaxUint32 - 1, Bits: 31},
	{Addr: 0x0A000000, Bits: 7}, ten, {Addr: 0x0A000000, Bits: 9}, {Addr: 0x0A800000, Bits: 9}, {Addr: 0x0A000000, Bits: 16}, {Addr: 0x0A010000, Bits: 16},
	{Addr: 0x0A010200, Bits: 24}, {Addr: 0x0A010203, Bits: 32}, {Addr: 0x0AFFFFFF, Bits: 32}, {Addr: 0x0B000000, Bits: 8}, {Addr: 0x0B000000, Bits: 32}, {Addr: 0x09FFFFFF, Bits: 32},
	{Addr: 0x0A010000, Bits: 8}, {Addr: 1}, {Addr: 1, Bits: 31}, {Addr: 0x0A000000, Bits: -1}, {Bits: -1}, {Bits: 33}, {Addr: 0x0A000000, Bits: 33}, {Addr: 0x0A000000, Bits: 40},
	{Bits: math.MinInt}, {Bits: math.MaxInt}, {Addr: math.MaxUint32, Bits: -32},
}

// bounds are numbers of bits, also some that no prefix has.
var bounds = []int{math.MinInt, -1, 0, 1, 7, 8, 9, 16, 24, 31, 32, 33, 40, math.MaxInt}

// plainEnds are the first address of a prefix and the one behind its last; false, if it may not be.
func plainEnds(p api.Prefix) (uint64, uint64, bool) {
	if p.Bits < 0 || p.Bits > 32 {
		return 0, 0, false
	}
	size := uint64(1)
	for range 32 - p.Bits {
		size *= 2
	}
	first := uint64(p.Addr)
	return first, first + size, first%size == 0
}

// plainFits says whether an entry fits a prefix, by their ends.
func plainFits(e api.Entry, p api.Prefix) bool {
	first, behind, may := plainEnds(p)
	from, to, also := plainEnds(e.Prefix)
	return may && also && from <= first && behind <= to && p.Bits >= e.Ge && p.Bits <= e.Le
}

// checkEntry looks whether a list decides a prefix by the entry at this place, or by none, if it is -1 (P9.1).
func checkEntry(t *testing.T, l api.PrefixList, p api.Prefix, at int) {
	t.Helper()
	i, is := lists.Entry(l, p)
	if at < 0 && (i != 0 || is) || at >= 0 && (i != at || !is) {
		t.Errorf("Entry(%v, %v): %d %v, not %d", l, p, i, is, at)
	}
	if permits := lists.Permits(l, p); permits != (at >= 0 && l.Entries[at].Permit) {
		t.Errorf("Permits(%v, %v): %v", l, p, permits)
	}
}

// anyEntries are so many entries; those of nearby prefixes stand among them often.
func anyEntries(r *rand.Rand, count int) []api.Entry {
	var list []api.Entry
	for range count {
		list = append(list, api.Entry{Permit: r.Intn(2) == 0, Prefix: prefixes[r.Intn(len(prefixes))], Ge: bounds[r.Intn(7)], Le: bounds[5+r.Intn(9)]})
	}
	return list
}

// P9.1: the examples, and what one field alone decides.
func TestFitsKnown(t *testing.T) {
	upto := func(p api.Prefix, ge, le int) api.Entry { return api.Entry{Prefix: p, Ge: ge, Le: le} }
	known := []struct {
		e   api.Entry
		p   api.Prefix
		fit bool
	}{
		{upto(ten, 8, 8), ten, true}, {upto(ten, 9, 8), ten, false}, {upto(ten, 8, 7), ten, false}, {upto(ten, 9, 32), ten, false}, {upto(ten, 0, 32), ten, true},
		{upto(ten, 16, 24), api.Prefix{Addr: 0x0A010000, Bits: 16}, true}, {upto(ten, 16, 24), api.Prefix{Addr: 0x0A010200, Bits: 24}, true},
		{upto(ten, 16, 24), api.Prefix{Addr: 0x0A000000, Bits: 15}, false}, {upto(ten, 16, 24), api.Prefix{Addr: 0x0A010200, Bits: 25}, false},
		// Of so many bits, but not in the prefix; in it, but with fewer bits than it has.
		{upto(ten, 8, 32), api.Prefix{Addr: 0x0B000000, Bits: 8}, false}, {upto(ten, 0, 32), api.Prefix{Addr: 0x0A000000, Bits: 7}, false}, {upto(ten, 0, 32), api.Prefix{}, false},
		{upto(ten, 8, 32), api.Prefix{Addr: 0x0AFFFFFF, Bits: 32}, true}, {upto(ten, 8, 32), api.Prefix{Addr: 0x0B000000, Bits: 32}, false}, {upto(ten, 8, 32), api.Prefix{Addr: 0x09FFFFFF, Bits: 32}, false},
		{upto(api.Prefix{}, 0, 0), api.Prefix{}, true}, {upto(api.Prefix{}, 0, 0), api.Prefix{Bits: 1}, false}, {upto(api.Prefix{}, 0, 32), api.Prefix{Addr: math.MaxUint32, Bits: 32}, true},
		{upto(api.Prefix{}, math.MinInt, math.MaxInt), ten, true}, {upto(api.Prefix{}, math.MaxInt, math.MinInt), ten, false}, {upto(api.Prefix{}, -1, 8), ten, true}, {upto(api.Prefix{}, 8, 99), ten, true},
		// What may not be is in nothing, and nothing is in it.
		{upto(ten, 8, 32), api.Prefix{Addr: 0x0A010000, Bits: 8}, false}, {upto(api.Prefix{}, 0, 99), api.Prefix{Bits: 33}, false}, {upto(api.Prefix{}, -9, 32), api.Prefix{Bits: -1}, false},
		{upto(api.Prefix{Addr: 0x0A010000, Bits: 8}, 8, 32), ten, false}, {upto(api.Prefix{Addr: 0x0A010000, Bits: 8}, 8, 32), api.Prefix{Addr: 0x0A010000, Bits: 16}, false},
		{upto(api.Prefix{Bits: -1}, 0, 32), ten, false}, {upto(api.Prefix{Addr: 0x0A010000, Bits: 8}, 8, 8), api.Prefix{Addr: 0x0A010000, Bits: 8}, false}, {upto(api.Prefix{Bits: 33}, 33, 33), api.Prefix{Bits: 33}, false},
	}
	for _, k := range known {
		if fit := lists.Fits(k.e, k.p); fit != k.fit {
			t.Errorf("Fits(%v, %v): %v", k.e, k.p, fit)
		}
	}
}

// P9.1: each entry of these prefixes and bounds, whether it permits or not, and each prefix; and lists of this entry alone.
func TestFitsEach(t *testing.T) {
	fit := 0
	for _, whole := range prefixes {
		for _, ge := range bounds {
			for _, le := range bounds {
				for i, p := range prefixes {
					e := api.Entry{Permit: i%2 == 0, Prefix: whole, Ge: ge, Le: le}
					want := plainFits(e, p)
					if got := lists.Fits(e, p); got != want {
						t.Errorf("Fits(%v, %v): %v", e, p, got)
					}
					at := -1
					if want {
						at, fit = 0, fit+1
					}
					checkEntry(t, api.PrefixList{Entries: []api.Entry{e}}, p, at)
				}
			}
		}
	}
	if fit < 1000 {
		t.Errorf("only %d fit", fit)
	}
}

// P9.1: the chapter's example.
func TestEntryKnown(t *testing.T) {
	l := api.PrefixList{Name: "l", Entries: []api.Entry{{Permit: true, Prefix: ten, Ge: 16, Le: 24}, {Prefix: ten, Ge: 8, Le: 32}, {Permit: true}}}
	for p, at := range map[api.Prefix]int{
		{Addr: 0x0A010000, Bits: 16}: 0, {Addr: 0x0A010200, Bits: 24}: 0, ten: 1, {Addr: 0x0A010203, Bits: 32}: 1, {Addr: 0x0A000000, Bits: 15}: 1, {Addr: 0x0A010280, Bits: 25}: 1, {}: 2,
		{Addr: 0xC0A80000, Bits: 16}: -1, {Bits: 1}: -1, {Addr: 0x0A000000, Bits: 7}: -1, {Addr: 0x0A010000, Bits: 8}: -1, {Bits: -1}: -1, {Addr: 1}: -1,
	} {
		checkEntry(t, l, p, at)
	}
}

// P9.1, P9.4: the first one that fits decides, whatever stands behind it; what is put ahead and does not fit changes nothing but its place.
func TestEntryMany(t *testing.T) {
	r := rand.New(rand.NewSource(9))
	decided, none := 0, 0
	for range 30000 {
		entries := anyEntries(r, r.Intn(9))
		p := prefixes[r.Intn(len(prefixes))]
		at := slices.IndexFunc(entries, func(e api.Entry) bool { return plainFits(e, p) })
		checkEntry(t, api.PrefixList{Entries: entries}, p, at)
		strangers := slices.DeleteFunc(anyEntries(r, 5), func(e api.Entry) bool { return plainFits(e, p) })
		if at < 0 {
			none++
			checkEntry(t, api.PrefixList{Entries: slices.Concat(strangers, entries, strangers)}, p, -1)
			continue
		}
		decided++
		checkEntry(t, api.PrefixList{Entries: entries[:at+1]}, p, at)
		checkEntry(t, api.PrefixList{Entries: entries[at:]}, p, 0)
		checkEntry(t, api.PrefixList{Entries: slices.Concat(entries[:at+1], anyEntries(r, 3))}, p, at)
		checkEntry(t, api.PrefixList{Entries: slices.Concat(strangers, entries)}, p, at+len(strangers))
		// Twice, and then with what it says turned.
		twice := slices.Concat(entries[:at+1], entries[at:], entries)
		checkEntry(t, api.PrefixList{Entries: twice}, p, at)
		twice[at+1].Permit = !twice[at].Permit
		checkEntry(t, api.PrefixList{Entries: twice}, p, at)
	}
	if decided < 3000 || none < 3000 {
		t.Errorf("%d decided, %d not", decided, none)
	}
}

// P9.4: an empty list permits nothing, also if there is an entry in the room behind its end.
func TestNoEntries(t *testing.T) {
	room := []api.Entry{{Permit: true, Le: 32}, {Permit: true, Prefix: ten, Le: 32}}
	for _, p := range prefixes {
		for _, entries := range [][]api.Entry{nil, {}, room[:0], room[1:1]} {
			checkEntry(t, api.PrefixList{Name: "l", Entries: entries}, p, -1)
		}
	}
}

// R3: a list is not changed.
func TestEntriesAsTheyWere(t *testing.T) {
	r := rand.New(rand.NewSource(9))
	entries := anyEntries(r, 300)
	l := api.PrefixList{Entries: slices.Clone(entries)[:200]}
	for _, p := range prefixes {
		lists.Entry(l, p)
		lists.Permits(l, p)
	}
	if got := l.Entries[:300]; !slices.Equal(got, entries) {
		t.Error("changed")
	}
}

// P9.1: a long list that the last entry decides.
func TestManyEntries(t *testing.T) {
	entries := make([]api.Entry, 1<<20)
	for i := range entries {
		entries[i] = api.Entry{Prefix: api.Prefix{Addr: api.Addr(i), Bits: 32}, Ge: 32, Le: 32}
	}
	entries[len(entries)-1].Permit = true
	l := api.PrefixList{Entries: entries}
	checkEntry(t, l, api.Prefix{Addr: 1<<20 - 1, Bits: 32}, 1<<20-1)
	checkEntry(t, l, api.Prefix{Addr: 1 << 20, Bits: 32}, -1)
	checkEntry(t, l, api.Prefix{Addr: 7, Bits: 32}, 7)
}
