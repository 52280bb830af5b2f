package rel_test

import (
	"math"
	"slices"
	"testing"

	"waymark/addr"
	"waymark/api"
	"waymark/header"
	"waymark/rel"
)

var (
	greatest = api.Header{Src: math.MaxUint32, Dst: math.MaxUint32, Proto: math.MaxUint8, SrcPort: math.MaxUint16, DstPort: math.MaxUint16}
	everyday = api.Header{Src: 0x0A000001, Dst: 0x0A000002, Proto: 6, SrcPort: 1024, DstPort: 80}
	ten      = api.Prefix{Addr: 0x0A000000, Bits: 8}
	widths   = []int{32, 32, 8, 16, 16}
)

// ok is a call's answer; nothing may be refused.
func ok[T any](t *testing.T) func(T, api.Errno) T {
	return func(v T, e api.Errno) T {
		t.Helper()
		if e != api.OK {
			t.Fatal(e)
		}
		return v
	}
}

// pairs are the spans from the first of each two numbers to the second.
func pairs(ends ...uint32) []api.Span {
	var l []api.Span
	for i := 0; i < len(ends); i += 2 {
		l = append(l, api.Span{Lo: ends[i], Hi: ends[i+1]})
	}
	return l
}

// space is one with all room.
func space(t *testing.T) *rel.Space {
	t.Helper()
	s, e := rel.New(api.MaxNodes)
	if e != api.OK || s.Used() != 0 {
		t.Fatal(e, s.Used())
	}
	return s
}

// just holds a set's headers against a function, with the headers around which it is held.
func just(t *testing.T, s *rel.Space, what any, a int, list []api.Header, is func(api.Header) bool) {
	t.Helper()
	for _, h := range list {
		if got, e := s.Has(a, h); got != is(h) || e != api.OK {
			t.Fatalf("%v: Has %s: %t %v", what, header.Text(h), got, e)
		}
	}
}

// P6.1: one header, with each bit once set and once not.
func TestHeader(t *testing.T) {
	s := space(t)
	list := append(turned(api.Header{}), turned(greatest)...)
	list = append(list, turned(everyday)...)
	for _, h := range list {
		a := ok[int](t)(s.Header(h))
		just(t, s, h, a, append(turned(h), list...), func(other api.Header) bool { return other == h })
		if c, e := s.Count(a); c != (api.Count{Lo: 1}) || e != api.OK {
			t.Error("Count", h, c, e)
		}
		if least, e := s.Least(a); least != h || e != api.OK {
			t.Error("Least", h, least, e)
		}
	}
}

// P6.1: prefixes of each length, in both fields.
func TestPrefix(t *testing.T) {
	s := space(t)
	for n := range 33 {
		for _, a := range []api.Addr{0, 0x0A0B0C0D, 0x80000001, math.MaxUint32} {
			p := ok[api.Prefix](t)(addr.Subnet(a, n))
			first, last, _ := addr.Ends(p)
			for _, f := range []rel.Field{rel.Src, rel.Dst} {
				set := ok[int](t)(s.Prefix(f, p))
				var list []api.Header
				for _, v := range []api.Addr{first - 1, first, a, last, last + 1} {
					list = append(list, with(api.Header{}, f, uint64(v)), with(greatest, f, uint64(v)), with(everyday, f, uint64(v)))
				}
				just(t, s, p, set, list, func(h api.Header) bool { return addr.In(api.Addr(field(h, int(f))), p) })
				want := api.Count{Hi: 1 << (40 - n)}
				if c, e := s.Count(set); c != want || e != api.OK {
					t.Error("Count", p, c, e)
				}
				if same, e := s.Numbers(f, []api.Span{{Lo: uint32(first), Hi: uint32(last)}}); same != set || e != api.OK {
					t.Error("Numbers", p, same, set, e)
				}
			}
		}
	}
}

// P6.1: sets of numbers in each field, in any form.
func TestNumbers(t *testing.T) {
	s := space(t)
	for f, n := range widths {
		top := uint32(1<<n - 1)
		for _, l := range [][]api.Span{
			nil, pairs(3, 1), pairs(0, 0), pairs(top, top), pairs(0, top), pairs(0, math.MaxUint32), pairs(6, 6), pairs(1, 5, 7, 9),
			pairs(7, 9, 8, 20, 1, 5, 6, 6, 4, 2), pairs(top-1, top, 0, 1), pairs(top/2-1, top/2+2), pairs(2, top-1), pairs(3, 3, 5, 5, 7, 7, 100, 200),
		} {
			a := ok[int](t)(s.Numbers(rel.Field(f), l))
			has := func(v uint64) bool {
				return slices.ContainsFunc(l, func(x api.Span) bool { return uint64(x.Lo) <= v && v <= uint64(x.Hi) })
			}
			var list []api.Header
			for _, v := range []uint32{0, 1, 2, 3, 4, 5, 6, 7, 8, 9, 10, 19, 20, 21, 99, 100, 200, 201, top/2 - 2, top/2 - 1, top / 2, top/2 + 1, top/2 + 2, top/2 + 3, top - 2, top - 1, top} {
				list = append(list, with(api.Header{}, rel.Field(f), uint64(v)), with(greatest, rel.Field(f), uint64(v)))
			}
			just(t, s, l, a, list, func(h api.Header) bool { return has(field(h, f)) })
			if slices.Equal(l, pairs(0, top)) && a != 1 || len(l) == 0 && a != 0 {
				t.Error(f, l, a)
			}
		}
	}
	// Numbers that no header has in the field are of no matter.
	six := ok[int](t)(s.Numbers(rel.Proto, pairs(6, 6)))
	if a, e := s.Numbers(rel.Proto, pairs(256, 300, 6, 6, 70000, math.MaxUint32)); a != six || e != api.OK {
		t.Error(a, six, e)
	}
	if a, e := s.Numbers(rel.DstPort, pairs(65536, math.MaxUint32)); a != 0 || e != api.OK {
		t.Error(a, e)
	}
	odd := make([]api.Span, 1<<15)
	for i := range odd {
		odd[i] = api.Span{Lo: uint32(2*i + 1), Hi: uint32(2*i + 1)}
	}
	s = space(t)
	a := ok[int](t)(s.Numbers(rel.SrcPort, odd))
	if c, e := s.Count(a); c != (api.Count{Hi: 1 << 39}) || e != api.OK || s.Used() != 1 {
		t.Error(c, e, s.Used())
	}
}

// P6.3: Keep leads from each header to itself, and to none that is turned in any bit.
func TestKeep(t *testing.T) {
	s := space(t)
	keep := ok[int](t)(s.Keep())
	for _, h := range []api.Header{{}, greatest, everyday} {
		for _, from := range turned(h) {
			for _, to := range turned(h) {
				if is, e := s.Leads(keep, from, to); is != (from == to) || e != api.OK {
					t.Fatal(from, to, is, e)
				}
			}
		}
	}
	if again, e := s.Keep(); again != keep || e != api.OK {
		t.Error(again, keep, e)
	}
}

// P6.3: Put leads from each header to that with the number, and to none that is turned in any bit.
func TestPut(t *testing.T) {
	s := space(t)
	for f, n := range widths {
		for _, v := range []uint32{0, 1, 80, 1 << (n - 1), 1<<n - 1, 0xA5A5A5A5 >> (32 - n)} {
			put := ok[int](t)(s.Put(rel.Field(f), v))
			for _, from := range append(turned(everyday), turned(greatest)...) {
				for _, to := range turned(with(from, rel.Field(f), uint64(v))) {
					is, e := s.Leads(put, from, to)
					if is != (to == with(from, rel.Field(f), uint64(v))) || e != api.OK {
						t.Fatal(f, v, from, to, is, e)
					}
				}
			}
		}
	}
}

// P6.4: sets made in unlike ways are one node, if they are the same headers.
func TestOneNode(t *testing.T) {
	s := space(t)
	node := ok[int](t)
	h := node(s.Header(everyday))
	all := 1
	for f := range widths {
		v := uint32(field(everyday, f))
		all = node(s.And(all, node(s.Numbers(rel.Field(f), pairs(v, v)))))
	}
	low, high, _ := addr.Halves(ten)
	halves := node(s.Or(node(s.Prefix(rel.Dst, low)), node(s.Prefix(rel.Dst, high))))
	whole := node(s.Prefix(rel.Dst, ten))
	kept := node(s.Where(node(s.Keep()), whole))
	for what, pair := range map[string][2]int{
		"header":         {h, all},
		"halves":         {halves, whole},
		"not not":        {node(s.Not(node(s.Not(whole)))), whole},
		"less":           {node(s.Less(whole, halves)), 0},
		"nothing":        {node(s.And(whole, node(s.Not(halves)))), 0},
		"everything":     {node(s.Or(whole, node(s.Not(halves)))), 1},
		"not everything": {node(s.Not(1)), 0},
		"not nothing":    {node(s.Not(0)), 1},
		"all prefixes":   {node(s.Prefix(rel.Src, api.Prefix{})), 1},
		"where all":      {node(s.Where(1, whole)), whole},
		"where none":     {node(s.Where(node(s.Keep()), 0)), 0},
		"either":         {node(s.Either(kept, node(s.Keep()))), node(s.Keep())},
		"sets either":    {node(s.Either(whole, h)), node(s.Or(whole, h))},
	} {
		if pair[0] != pair[1] {
			t.Error(what, pair)
		}
	}
	if kept == whole || h == whole {
		t.Error(kept, whole, h)
	}
}

// P6.3: a set leads from each of its headers to every one, 1 from all, 0 from none; what turns out to be a set is one, whatever call has made it.
func TestSetsAsRelations(t *testing.T) {
	s := space(t)
	node := ok[int](t)
	a, b := node(s.Prefix(rel.Src, ten)), node(s.Numbers(rel.Proto, pairs(6, 6)))
	keep := node(s.Keep())
	for what, pair := range map[string][2]int{
		"image of some":      {node(s.Image(a, b)), 1},
		"image of none":      {node(s.Image(a, node(s.Not(a)))), 0},
		"image by 1":         {node(s.Image(1, b)), 1},
		"image by 0":         {node(s.Image(0, 1)), 0},
		"image of 0":         {node(s.Image(keep, 0)), 0},
		"preimage of some":   {node(s.Preimage(a, b)), a},
		"preimage of none":   {node(s.Preimage(a, 0)), 0},
		"preimage by 1":      {node(s.Preimage(1, b)), 1},
		"preimage by 0":      {node(s.Preimage(0, 1)), 0},
		"whole of keep or 1": {node(s.Either(keep, 1)), 1},
		"of one header":      {node(s.Image(keep, node(s.Header(everyday)))), node(s.Header(everyday))},
	} {
		if pair[0] != pair[1] {
			t.Error(what, pair)
		}
	}
	if is, e := s.Leads(a, everyday, greatest); !is || e != api.OK {
		t.Error(is, e)
	}
	if is, e := s.Leads(a, greatest, everyday); is || e != api.OK {
		t.Error(is, e)
	}
	either := node(s.Either(a, b))
	if c, e := s.Count(either); c != (api.Count{Hi: 1<<33 - 1<<24}) || e != api.OK {
		t.Error(c, e)
	}
	if same, e := s.And(node(s.Where(a, b)), either); same != node(s.And(a, b)) || e != api.OK {
		t.Error(same, e)
	}
	// Where the headers behind are all that matters it is no set.
	if _, e := s.Count(node(s.Put(rel.Proto, 6))); e != api.ErrArg {
		t.Error(e)
	}
}

// The chapter's examples.
func TestExamples(t *testing.T) {
	s := space(t)
	node, count := ok[int](t), ok[api.Count](t)
	a := node(s.Numbers(rel.Proto, pairs(6, 6)))
	b := node(s.Prefix(rel.Dst, ten))
	if c, d, both := count(s.Count(a)), count(s.Count(b)), count(s.Count(node(s.And(a, b)))); c != (api.Count{Hi: 1 << 32}) || d != c || both != (api.Count{Hi: 1 << 24}) {
		t.Error(c, d, both)
	}
	if h, e := s.Least(a); h != (api.Header{Proto: 6}) || e != api.OK {
		t.Error(h, e)
	}
	put := node(s.Put(rel.Dst, 167772161))
	image := node(s.Image(put, 1))
	if c := count(s.Count(image)); c != (api.Count{Hi: 1 << 8}) {
		t.Error(c)
	}
	just(t, s, "image", image, []api.Header{{Dst: 167772161}, {Dst: 167772160}, greatest, with(greatest, rel.Dst, 167772161)}, func(h api.Header) bool { return h.Dst == 167772161 })
	eleven := node(s.Prefix(rel.Dst, api.Prefix{Addr: 0x0B000000, Bits: 8}))
	if in, out := node(s.Preimage(put, b)), node(s.Preimage(put, eleven)); in != 1 || out != 0 {
		t.Error(in, out)
	}
}
