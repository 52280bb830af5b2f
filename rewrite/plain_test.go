package rewrite_test

import (
	"math"
	"math/big"
	"math/rand"
	"slices"
	"testing"

	"waymark/addr"
	"waymark/api"
	"waymark/filter"
	"waymark/rel"
	"waymark/rewrite"
)

var (
	ten      = api.Prefix{Addr: 0x0A000000, Bits: 8}
	allPorts = api.Span{Hi: 65535}
	greatest = api.Header{Src: math.MaxUint32, Dst: math.MaxUint32, Proto: math.MaxUint8, SrcPort: math.MaxUint16, DstPort: math.MaxUint16}
)

// kinds are the two of rewrites.
var kinds = []bool{false, true}

// anything is a rule that asks nothing.
func anything(permit bool) api.Rule {
	return api.Rule{Permit: permit, Proto: -1, SrcPorts: allPorts, DstPorts: allPorts}
}

// from is a rule that asks for a source alone.
func from(permit bool, p api.Prefix) api.Rule {
	r := anything(permit)
	r.Src = p
	return r
}

// example are the chapter's rewrites and filters.
func example() ([]api.Rewrite, []api.Filter) {
	return []api.Rewrite{{Filter: "f", To: 0x01020304}, {Dest: true, Filter: "g", To: 0x05060708}, {Filter: "g", To: 0x09090909}},
		[]api.Filter{{Name: "f", Rules: []api.Rule{from(true, ten)}}, {Name: "g", Rules: []api.Rule{anything(true)}}}
}

// plainPermits tells whether the filter that a name stands for permits a header.
func plainPermits(filters []api.Filter, name string, h api.Header) bool {
	if name == "" {
		return true
	}
	for _, f := range filters {
		if f.Name != name {
			continue
		}
		for _, r := range f.Rules {
			if filter.Fits(r, h) {
				return r.Permit
			}
		}
		return false
	}
	panic("no filter " + name)
}

// plainFirst is the place of the rewrite that applies to a header.
func plainFirst(l []api.Rewrite, filters []api.Filter, dest bool, h api.Header) int {
	return slices.IndexFunc(l, func(r api.Rewrite) bool { return r.Dest == dest && plainPermits(filters, r.Filter, h) })
}

// plainApply is what comes of a header.
func plainApply(l []api.Rewrite, filters []api.Filter, dest bool, h api.Header) api.Header {
	if i := plainFirst(l, filters, dest, h); i >= 0 {
		return with(h, dest, l[i].To)
	}
	return h
}

// with is a header with an address in the place that the rewrites of a kind look at.
func with(h api.Header, dest bool, a api.Addr) api.Header {
	if dest {
		return api.Header{Src: h.Src, Dst: a, Proto: h.Proto, SrcPort: h.SrcPort, DstPort: h.DstPort}
	}
	return api.Header{Src: a, Dst: h.Dst, Proto: h.Proto, SrcPort: h.SrcPort, DstPort: h.DstPort}
}

// grid are the numbers, rising, at which pieces of each field begin, when it is cut at all ends of what some filters ask and at what some rewrites put: what comes of the headers of one piece of each field is of the same pieces.
type grid [5][]uint64

// cut is the grid of some rewrites and filters.
func cut(l []api.Rewrite, filters ...api.Filter) grid {
	g := grid{{0, 1 << 32}, {0, 1 << 32}, {0, 1 << 8}, {0, 1 << 16}, {0, 1 << 16}}
	put := func(f int, lo, hi uint64) { g[f] = append(g[f], lo, hi+1) }
	prefix := func(f int, p api.Prefix) {
		first, last, _ := addr.Ends(p)
		put(f, uint64(first), uint64(last))
	}
	for _, f := range filters {
		for _, r := range f.Rules {
			prefix(0, r.Src)
			prefix(1, r.Dst)
			if r.Proto >= 0 {
				put(2, uint64(r.Proto), uint64(r.Proto))
			}
			put(3, uint64(r.SrcPorts.Lo), uint64(r.SrcPorts.Hi))
			put(4, uint64(r.DstPorts.Lo), uint64(r.DstPorts.Hi))
		}
	}
	for _, r := range l {
		put(0, uint64(r.To), uint64(r.To))
		put(1, uint64(r.To), uint64(r.To))
	}
	for f := range g {
		slices.Sort(g[f])
		g[f] = slices.Compact(g[f])
	}
	return g
}

// box is a piece of each field, by their places.
type box [5]int

// boxes are all of a grid.
func (g grid) boxes() []box {
	list := []box{{}}
	for f := range g {
		var longer []box
		for _, b := range list {
			for i := range len(g[f]) - 1 {
				b[f] = i
				longer = append(longer, b)
			}
		}
		list = longer
	}
	return list
}

// of is the box in which a header is.
func (g grid) of(h api.Header) box {
	var b box
	for f, v := range [5]uint64{uint64(h.Src), uint64(h.Dst), uint64(h.Proto), uint64(h.SrcPort), uint64(h.DstPort)} {
		i, is := slices.BinarySearch(g[f], v)
		if !is {
			i--
		}
		b[f] = i
	}
	return b
}

// ends are a box's least header, and its greatest one.
func (g grid) ends(b box) []api.Header {
	of := func(behind int) api.Header {
		var v [5]uint64
		for f, i := range b {
			v[f] = g[f][i+behind] - uint64(behind)
		}
		return api.Header{Src: api.Addr(v[0]), Dst: api.Addr(v[1]), Proto: uint8(v[2]), SrcPort: uint16(v[3]), DstPort: uint16(v[4])}
	}
	return []api.Header{of(0), of(1)}
}

// count is how many headers are in those boxes that are so.
func (g grid) count(is func(b box) bool) api.Count {
	n := new(big.Int)
	for _, b := range g.boxes() {
		if !is(b) {
			continue
		}
		size := big.NewInt(1)
		for f, i := range b {
			size.Mul(size, new(big.Int).SetUint64(g[f][i+1]-g[f][i]))
		}
		n.Add(n, size)
	}
	low := new(big.Int).And(n, new(big.Int).SetUint64(math.MaxUint64))
	return api.Count{Hi: new(big.Int).Rsh(n, 64).Uint64(), Lo: low.Uint64()}
}

// space is one with all room.
func space(t *testing.T) *rel.Space {
	t.Helper()
	s, e := rel.New(api.MaxNodes)
	if e != api.OK {
		t.Fatal(e)
	}
	return s
}

// ok is a call's answer; nothing may be refused.
func ok[T any](t *testing.T) func(T, api.Errno) T {
	return func(v T, e api.Errno) T {
		t.Helper()
		if e != api.OK {
			t.Fatal(e)
		}
		return v
	}
}

// pick is one of some things.
func pick[T any](r *rand.Rand, list ...T) T { return list[r.Intn(len(list))] }

// anyFilter is a filter of few prefixes, protocols and ports, so that many headers fit several rules.
func anyFilter(r *rand.Rand, name string) api.Filter {
	f := api.Filter{Name: name}
	for range r.Intn(4) {
		f.Rules = append(f.Rules, api.Rule{
			Permit: r.Intn(3) > 0, Proto: pick(r, -1, -1, 6),
			Src:      pick(r, api.Prefix{}, ten, api.Prefix{Addr: 0x0A800000, Bits: 9}, api.Prefix{Addr: 0x0A000001, Bits: 32}),
			Dst:      pick(r, api.Prefix{}, api.Prefix{}, ten, api.Prefix{Addr: 0xC0000000, Bits: 2}),
			SrcPorts: pick(r, allPorts, allPorts, api.Span{Lo: 1024, Hi: 65535}),
			DstPorts: pick(r, allPorts, allPorts, api.Span{Lo: 80, Hi: 80}),
		})
	}
	return f
}

// anyRewrites are up to so many rewrites of both kinds, and filters, of which some have one name and some are of no matter.
func anyRewrites(r *rand.Rand, most int) ([]api.Rewrite, []api.Filter) {
	var filters []api.Filter
	for _, name := range []string{"a", "b", "c", "b", "", "d", "e"} {
		filters = append(filters, anyFilter(r, name))
	}
	var l []api.Rewrite
	for range r.Intn(most + 1) {
		name := pick(r, "a", "b", "c", "d", "e")
		if r.Intn(12) == 0 {
			name = ""
		}
		l = append(l, api.Rewrite{Dest: r.Intn(2) == 0, Filter: name, To: pick[api.Addr](r, 0, 0x0A000001, 0x0A800000, 0xC0000007)})
	}
	return l, filters
}

// anyHeader is a header, often one that filters ask for.
func anyHeader(r *rand.Rand) api.Header {
	a := func() api.Addr {
		return pick(r, 0x0A000001, 0x0A000000, 0x0AFFFFFF, 0x0A800000, 0x0A7FFFFF, 0xC0000007, api.Addr(r.Uint32()))
	}
	return api.Header{Src: a(), Dst: a(), Proto: pick(r, 6, uint8(r.Intn(256))), SrcPort: pick(r, 1024, uint16(r.Intn(65536))), DstPort: pick(r, 80, uint16(r.Intn(65536)))}
}

// applies looks whether the rewrite at this place applies to a header, or none, if it is -1, and whether that comes of it.
func applies(t *testing.T, l []api.Rewrite, filters []api.Filter, dest bool, h api.Header, at int) {
	t.Helper()
	want := h
	if at >= 0 {
		want = with(h, dest, l[at].To)
	}
	if i, e := rewrite.First(l, filters, dest, h); i != at || e != api.OK {
		t.Fatalf("First(%v, %v, %v, %v): %d %v, not %d", l, filters, dest, h, i, e, at)
	}
	if got, e := rewrite.Apply(l, filters, dest, h); got != want || e != api.OK {
		t.Fatalf("Apply(%v, %v, %v, %v): %v %v, not %v", l, filters, dest, h, got, e, want)
	}
}
