package filter_test

import (
	"math"
	"math/big"
	"math/rand"
	"slices"
	"testing"

	"waymark/addr"
	"waymark/api"
	"waymark/filter"
	"waymark/rel"
)

var (
	ten      = api.Prefix{Addr: 0x0A000000, Bits: 8}
	allPorts = api.Span{Hi: 65535}
	greatest = api.Header{Src: math.MaxUint32, Dst: math.MaxUint32, Proto: math.MaxUint8, SrcPort: math.MaxUint16, DstPort: math.MaxUint16}
)

// anything is a rule that asks nothing.
func anything(permit bool) api.Rule {
	return api.Rule{Permit: permit, Proto: -1, SrcPorts: allPorts, DstPorts: allPorts}
}

// changed is a rule that is changed.
func changed(r api.Rule, change func(*api.Rule)) api.Rule {
	change(&r)
	return r
}

// example is the chapter's filter.
func example() api.Filter {
	return api.Filter{Name: "f", Rules: []api.Rule{
		{Permit: true, Proto: 6, Src: ten, SrcPorts: allPorts, DstPorts: api.Span{Lo: 80, Hi: 80}},
		{Proto: -1, Src: ten, SrcPorts: allPorts, DstPorts: allPorts},
		anything(true),
	}}
}

// extent is the numbers of a field that fit a rule: from lo on, and below behind.
type extent struct{ lo, behind uint64 }

// plainPrefix is the extent of a prefix, by dividing: none, if it may not be.
func plainPrefix(p api.Prefix) extent {
	if p.Bits < 0 || p.Bits > 32 {
		return extent{}
	}
	size := uint64(1)
	for range 32 - p.Bits {
		size *= 2
	}
	if uint64(p.Addr)%size != 0 {
		return extent{}
	}
	return extent{uint64(p.Addr), uint64(p.Addr) + size}
}

// plainExtents are the extents of a rule's fields, in the order of a header's.
func plainExtents(r api.Rule) [5]extent {
	proto := extent{0, 256}
	if r.Proto != -1 {
		proto = extent{}
		for n := range uint64(256) {
			if r.Proto == int(n) {
				proto = extent{n, n + 1}
			}
		}
	}
	ports := func(x api.Span) extent { return extent{uint64(x.Lo), min(uint64(x.Hi)+1, 65536)} }
	return [5]extent{plainPrefix(r.Src), plainPrefix(r.Dst), proto, ports(r.SrcPorts), ports(r.DstPorts)}
}

// values are a header's numbers.
func values(h api.Header) [5]uint64 {
	return [5]uint64{uint64(h.Src), uint64(h.Dst), uint64(h.Proto), uint64(h.SrcPort), uint64(h.DstPort)}
}

// headerOf is the header of such numbers.
func headerOf(v [5]uint64) api.Header {
	return api.Header{Src: api.Addr(v[0]), Dst: api.Addr(v[1]), Proto: uint8(v[2]), SrcPort: uint16(v[3]), DstPort: uint16(v[4])}
}

// plainFits tells whether a header fits a rule, by their numbers.
func plainFits(r api.Rule, h api.Header) bool {
	v := values(h)
	for f, x := range plainExtents(r) {
		if v[f] < x.lo || v[f] >= x.behind {
			return false
		}
	}
	return true
}

// plainDecides is the place of the first rule that a header fits, or -1.
func plainDecides(rules []api.Rule, h api.Header) int {
	return slices.IndexFunc(rules, func(r api.Rule) bool { return plainFits(r, h) })
}

// cuts are the numbers, rising, at which pieces of a field begin, if it is cut at all ends of the rules'.
func cuts(rules []api.Rule, f int) []uint64 {
	list := []uint64{0}
	top := []uint64{1 << 32, 1 << 32, 1 << 8, 1 << 16, 1 << 16}[f]
	for _, r := range rules {
		x := plainExtents(r)[f]
		list = append(list, min(x.lo, top), min(x.behind, top))
	}
	list = append(list, top)
	slices.Sort(list)
	return slices.Compact(list)
}

// box are the headers of one piece of each field: which one decides is the same for all of them.
type box struct {
	least, greatest, other api.Header
	count                  *big.Int
}

// boxes are all boxes of some rules.
func boxes(rules []api.Rule) []box {
	var list []box
	var at [5]extent
	var walk func(f int)
	walk = func(f int) {
		if f == len(at) {
			list = append(list, boxOf(at))
			return
		}
		begins := cuts(rules, f)
		for i, lo := range begins[:len(begins)-1] {
			at[f] = extent{lo, begins[i+1]}
			walk(f + 1)
		}
	}
	walk(0)
	return list
}

// boxOf is the box of five pieces.
func boxOf(at [5]extent) box {
	count := big.NewInt(1)
	var least, greatest, other [5]uint64
	for f, x := range at {
		count.Mul(count, new(big.Int).SetUint64(x.behind-x.lo))
		least[f], greatest[f], other[f] = x.lo, x.behind-1, x.lo+(x.behind-x.lo)/3
	}
	return box{headerOf(least), headerOf(greatest), headerOf(other), count}
}

// number is a count as one number.
func number(c api.Count) *big.Int {
	n := new(big.Int).Lsh(new(big.Int).SetUint64(c.Hi), 64)
	return n.Or(n, new(big.Int).SetUint64(c.Lo))
}

// space is one with all room.
func space(t *testing.T) *rel.Space {
	t.Helper()
	s, e := rel.New(api.MaxNodes)
	if e != api.OK {
		t.Fatal(e)
	}
	return s
}

// ok is a call's answer; nothing may be refused.
func ok[T any](t *testing.T) func(T, api.Errno) T {
	return func(v T, e api.Errno) T {
		t.Helper()
		if e != api.OK {
			t.Fatal(e)
		}
		return v
	}
}

// fitSet is the set of the headers that fit a rule, made of its extents.
func fitSet(t *testing.T, s *rel.Space, r api.Rule) int {
	t.Helper()
	node := ok[int](t)
	set := 1
	for f, x := range plainExtents(r) {
		var l []api.Span
		if x.lo < x.behind {
			l = append(l, api.Span{Lo: uint32(x.lo), Hi: uint32(x.behind - 1)})
		}
		set = node(s.And(set, node(s.Numbers(rel.Field(f), l))))
	}
	return set
}

// The kinds of rules of which the tests make filters.
const (
	near = iota // of few prefixes, protocols and ports: many that meet
	wide        // of any numbers, of few bits: all of them meet somewhere
	real        // as they are written
)

// pick is one of some things.
func pick[T any](r *rand.Rand, list ...T) T { return list[r.Intn(len(list))] }

// anyPrefix is a prefix for a rule of a kind.
func anyPrefix(r *rand.Rand, kind int) api.Prefix {
	switch kind {
	case near:
		return pick(r, api.Prefix{}, ten, api.Prefix{Addr: 0x0A800000, Bits: 9}, api.Prefix{Addr: 0x0A000001, Bits: 32})
	case wide:
		p, _ := addr.Subnet(api.Addr(r.Uint32()), r.Intn(5))
		return p
	}
	p, _ := addr.Subnet(0x0A000000|api.Addr(r.Uint32())>>16, pick(r, 0, 8, 24, 24, 32))
	return p
}

// anySpan is a span of ports for a rule of a kind.
func anySpan(r *rand.Rand, kind int) api.Span {
	lo, hi := uint32(r.Intn(65536)), uint32(r.Intn(65536))
	switch {
	case kind == near:
		return pick(r, allPorts, api.Span{Lo: 80, Hi: 80}, api.Span{Lo: 80, Hi: 1023}, api.Span{Lo: 1024, Hi: 65535})
	case kind == wide:
		return api.Span{Lo: min(lo, hi), Hi: max(lo, hi)}
	case r.Intn(2) == 0:
		return allPorts
	}
	return api.Span{Lo: lo % 1024, Hi: lo % 1024}
}

// anyRules are so many rules of a kind.
func anyRules(r *rand.Rand, kind, count int) []api.Rule {
	var rules []api.Rule
	for range count {
		rules = append(rules, api.Rule{
			Permit: r.Intn(2) == 0, Proto: pick(r, -1, 6, 6, 17), Src: anyPrefix(r, kind), Dst: anyPrefix(r, kind),
			SrcPorts: anySpan(r, kind), DstPorts: anySpan(r, kind),
		})
	}
	return rules
}

// around are headers at the ends of a rule, and one past them in each field.
func around(r api.Rule, h api.Header) []api.Header {
	var list []api.Header
	at := values(h)
	for f, x := range plainExtents(r) {
		if f != 2 || x.lo < x.behind {
			at[f] = x.lo
		}
	}
	list = append(list, headerOf(at))
	for f, x := range plainExtents(r) {
		for _, v := range []uint64{x.lo - 1, x.lo, x.lo + (x.behind-x.lo)/2, x.behind - 1, x.behind} {
			one := at
			one[f] = v
			list = append(list, headerOf(one))
		}
	}
	return list
}

// decides looks whether the rule at this place decides a header, or none, if it is -1.
func decides(t *testing.T, rules []api.Rule, h api.Header, at int) {
	t.Helper()
	f := api.Filter{Rules: rules}
	if i, e := filter.Decides(f, h); i != at || e != api.OK {
		t.Fatalf("Decides(%v, %v): %d %v, not %d", rules, h, i, e, at)
	}
	if permits, e := filter.Permits(f, h); permits != (at >= 0 && rules[at].Permit) || e != api.OK {
		t.Fatalf("Permits(%v, %v): %v %v", rules, h, permits, e)
	}
}
