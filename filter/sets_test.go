package filter_test

import (
	"math/big"
	"math/rand"
	"slices"
	"testing"

	"waymark/api"
	"waymark/filter"
	"waymark/header"
	"waymark/rel"
)

// P10.2: the chapter's example.
func TestSetKnown(t *testing.T) {
	s := space(t)
	set := ok[int](t)(filter.Set(s, example()))
	if c, e := s.Count(set); c != (api.Count{Hi: 1<<40 - 1<<32 + 1<<8}) || e != api.OK {
		t.Error(c, e)
	}
	if h, e := s.Least(set); h != (api.Header{}) || e != api.OK {
		t.Error(h, e)
	}
	each := ok[[]int](t)(filter.Rules(s, example()))
	for i, want := range []api.Count{{Hi: 1 << 8}, {Hi: 1<<32 - 1<<8}, {Hi: 1<<40 - 1<<32}} {
		if c, e := s.Count(each[i]); c != want || e != api.OK {
			t.Error(i, c, e)
		}
	}
	for i, want := range []api.Header{{Src: 0x0A000000, Proto: 6, DstPort: 80}, {Src: 0x0A000000}, {}} {
		if h, e := s.Least(each[i]); h != want || e != api.OK {
			t.Error(i, h, e)
		}
	}
}

// P10.2: each rule that may be, alone: it decides just what fits it.
func TestSetOfOne(t *testing.T) {
	s := space(t)
	for _, r := range someRules() {
		if !plainMay(r) {
			continue
		}
		want := fitSet(t, s, r)
		r.Permit = true
		f := api.Filter{Rules: []api.Rule{r}}
		if n, e := filter.Set(s, f); n != want || e != api.OK {
			t.Errorf("Set(%v): %d %v", f, n, e)
		}
		if l, e := filter.Rules(s, f); !slices.Equal(l, []int{want}) || e != api.OK {
			t.Errorf("Rules(%v): %v %v", f, l, e)
		}
		f.Rules[0].Permit = false
		if n, e := filter.Set(s, f); n != 0 || e != api.OK {
			t.Errorf("Set(%v): %d %v", f, n, e)
		}
		if l, e := filter.Rules(s, f); !slices.Equal(l, []int{want}) || e != api.OK {
			t.Errorf("Rules(%v): %v %v", f, l, e)
		}
	}
}

// bySets looks whether the sets of a filter are those that the words tell, made of what fits each rule (P10.2, P10.4).
func bySets(t *testing.T, s *rel.Space, f api.Filter) {
	t.Helper()
	node := ok[int](t)
	each := ok[[]int](t)(filter.Rules(s, f))
	set := node(filter.Set(s, f))
	if len(each) != len(f.Rules) {
		t.Fatal(len(each), f)
	}
	left, permitted := 1, 0
	for i, r := range f.Rules {
		fit := fitSet(t, s, r)
		if want := node(s.And(left, fit)); each[i] != want {
			t.Fatal("rule", i, f)
		}
		left = node(s.Less(left, fit))
		if r.Permit {
			permitted = node(s.Or(permitted, each[i]))
		}
	}
	if set != permitted {
		t.Fatal("Set", f)
	}
	// Asked again, each set is the same number, and takes no more room.
	used := s.Used()
	if again := ok[[]int](t)(filter.Rules(s, f)); !slices.Equal(again, each) || node(filter.Set(s, f)) != set || s.Used() != used {
		t.Error(again, each, used, s.Used())
	}
}

// P10.2, P10.4: many filters in one space.
func TestSetsMany(t *testing.T) {
	r := rand.New(rand.NewSource(10))
	for kind := range 3 {
		s := space(t)
		for range 150 {
			bySets(t, s, api.Filter{Rules: anyRules(r, kind, r.Intn(10))})
		}
	}
}

// P10.4: each header of each box: it is in the set just if it is permitted, and in a rule's just if that one decides; as many are as the boxes have.
func TestSetsByHeaders(t *testing.T) {
	r := rand.New(rand.NewSource(10))
	for i := range 60 {
		s := space(t)
		f := api.Filter{Rules: anyRules(r, i%3, r.Intn(4))}
		set := ok[int](t)(filter.Set(s, f))
		each := ok[[]int](t)(filter.Rules(s, f))
		counts := make([]*big.Int, len(f.Rules))
		for i := range counts {
			counts[i] = new(big.Int)
		}
		permitted := new(big.Int)
		for _, b := range boxes(f.Rules) {
			at := plainDecides(f.Rules, b.least)
			if at >= 0 {
				counts[at].Add(counts[at], b.count)
			}
			permits := at >= 0 && f.Rules[at].Permit
			if permits {
				permitted.Add(permitted, b.count)
			}
			for _, h := range []api.Header{b.least, b.greatest, b.other} {
				decides(t, f.Rules, h, at)
				if has, e := s.Has(set, h); has != permits || e != api.OK {
					t.Fatal(header.Text(h), has, e, f)
				}
				for i, n := range each {
					if has, e := s.Has(n, h); has != (i == at) || e != api.OK {
						t.Fatal(header.Text(h), i, has, e, f)
					}
				}
			}
		}
		if c := ok[api.Count](t)(s.Count(set)); number(c).Cmp(permitted) != 0 {
			t.Error(c, permitted, f)
		}
		for i, n := range each {
			if c := ok[api.Count](t)(s.Count(n)); number(c).Cmp(counts[i]) != 0 {
				t.Error(i, c, counts[i], f)
			}
		}
	}
}

// P10.2, P10.4: the greatest filters, of each kind.
func TestSetsMost(t *testing.T) {
	r := rand.New(rand.NewSource(10))
	for kind := range 3 {
		f := api.Filter{Rules: anyRules(r, kind, api.MaxRules)}
		if kind == near {
			// Few of these leave much to those behind: here each asks for a source of its own.
			for i := range f.Rules {
				f.Rules[i].Src = api.Prefix{Addr: api.Addr(i*37%256) << 24, Bits: 8}
			}
		}
		s := space(t)
		set := ok[int](t)(filter.Set(s, f))
		each := ok[[]int](t)(filter.Rules(s, f))
		permitted, decided := new(big.Int), new(big.Int)
		for i, n := range each {
			c := number(ok[api.Count](t)(s.Count(n)))
			decided.Add(decided, c)
			if f.Rules[i].Permit {
				permitted.Add(permitted, c)
			}
			if h, e := s.Least(n); e == api.OK {
				decides(t, f.Rules, h, i)
			} else if e != api.ErrNone {
				t.Fatal(e)
			}
		}
		if c := number(ok[api.Count](t)(s.Count(set))); c.Cmp(permitted) != 0 {
			t.Error(kind, c, permitted)
		}
		for range 3000 {
			h := pick(r, around(pick(r, f.Rules...), api.Header{Src: api.Addr(r.Uint32()), Dst: api.Addr(r.Uint32()), Proto: 6, SrcPort: uint16(r.Intn(65536)), DstPort: uint16(r.Intn(65536))})...)
			at := plainDecides(f.Rules, h)
			if has := ok[bool](t)(s.Has(set, h)); has != (at >= 0 && f.Rules[at].Permit) {
				t.Fatal(kind, h, has)
			}
			i := r.Intn(len(each))
			if has := ok[bool](t)(s.Has(each[i], h)); has != (i == at) {
				t.Fatal(kind, h, i, at, has)
			}
		}
		if whole := new(big.Int).Lsh(big.NewInt(1), 104); decided.Cmp(whole) > 0 {
			t.Error(kind, decided)
		}
	}
}

// P10.2: sets of several filters stand in one space, and can be held against one another.
func TestSetsTogether(t *testing.T) {
	s := space(t)
	node := ok[int](t)
	a := node(filter.Set(s, example()))
	halves := example()
	halves.Rules = slices.Insert(halves.Rules, 2, anything(true))
	low, high := halves.Rules[1], halves.Rules[1]
	low.Src.Bits, high.Src = 9, api.Prefix{Addr: 0x0A800000, Bits: 9}
	halves.Rules = slices.Replace(halves.Rules, 1, 2, high, low)
	if b := node(filter.Set(s, halves)); a != b {
		t.Error(a, b)
	}
	other := space(t)
	if b := node(filter.Set(other, halves)); b == 0 {
		t.Error(b)
	}
	same(t, s, a, other, node(filter.Set(other, example())))
}
