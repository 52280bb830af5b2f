package rewrite_test

import (
	"math"
	"reflect"
	"slices"
	"testing"

	"waymark/api"
	"waymark/rel"
	"waymark/rewrite"
)

// answers looks what all calls answer of a list; beside an error there is nothing else (R4), and the space has not changed.
func answers(t *testing.T, s *rel.Space, l []api.Rewrite, filters []api.Filter, want api.Errno) {
	t.Helper()
	used := s.Used()
	if e := rewrite.Check(l, filters); e != want {
		t.Fatalf("Check: %v, not %v", e, want)
	}
	for _, dest := range kinds {
		i, e := rewrite.First(l, filters, dest, greatest)
		if e != want || e != api.OK && i != 0 {
			t.Fatalf("First: %d %v, not %v", i, e, want)
		}
		h, e := rewrite.Apply(l, filters, dest, greatest)
		if e != want || e != api.OK && h != (api.Header{}) {
			t.Fatalf("Apply: %v %v, not %v", h, e, want)
		}
		for what, of := range inSpace(s, l, filters, dest, 1) {
			if n, e := of(); e != want || e != api.OK && n != 0 {
				t.Fatalf("%s: %d %v, not %v", what, n, e, want)
			}
		}
	}
	if want != api.OK && s.Used() != used {
		t.Fatal("what was refused has made nodes:", s.Used(), used)
	}
}

// inSpace are the calls that are handed a space.
func inSpace(s *rel.Space, l []api.Rewrite, filters []api.Filter, dest bool, set int) map[string]func() (int, api.Errno) {
	return map[string]func() (int, api.Errno){
		"Relation": func() (int, api.Errno) { return rewrite.Relation(s, l, filters, dest) },
		"Image":    func() (int, api.Errno) { return rewrite.Image(s, l, filters, dest, set) },
		"Preimage": func() (int, api.Errno) { return rewrite.Preimage(s, l, filters, dest, set) },
	}
}

// P11.1: filters that are not there, that may not be, and that are of no matter, since no rewrite has their name or another one stands ahead; of several faults the first rewrite's, of whichever kind.
func TestCheck(t *testing.T) {
	s := space(t)
	wrong := []api.Rule{{Proto: 6}, {Proto: 256}}
	filters := []api.Filter{
		{Name: "good", Rules: []api.Rule{anything(true)}}, {Name: "good", Rules: wrong},
		{Name: "bad", Rules: wrong}, {Name: "bad", Rules: []api.Rule{anything(true)}},
		{Name: "", Rules: wrong}, {Name: "never", Rules: wrong}, {Name: "none"},
		{Name: "long", Rules: make([]api.Rule, api.MaxRules+1)}, {Name: "full", Rules: make([]api.Rule, api.MaxRules)},
	}
	for _, x := range []struct {
		names []string
		want  api.Errno
	}{
		{nil, api.OK}, {[]string{"good"}, api.OK}, {[]string{""}, api.OK}, {[]string{"none"}, api.OK}, {[]string{"full"}, api.OK}, {[]string{"good", "", "none", "good"}, api.OK},
		{[]string{"h"}, api.ErrRef}, {[]string{"Good"}, api.ErrRef}, {[]string{"good "}, api.ErrRef}, {[]string{"goo"}, api.ErrRef}, {[]string{" "}, api.ErrRef}, {[]string{"\x00"}, api.ErrRef},
		{[]string{"bad"}, api.ErrModel}, {[]string{"long"}, api.ErrModel}, {[]string{"never"}, api.ErrModel},
		{[]string{"good", "h"}, api.ErrRef}, {[]string{"", "bad"}, api.ErrModel}, {[]string{"h", "bad"}, api.ErrRef}, {[]string{"bad", "h"}, api.ErrModel},
		{[]string{"good", "bad", "h"}, api.ErrModel}, {[]string{"good", "", "h", "bad", "good"}, api.ErrRef}, {[]string{"good", "good", "good", "long"}, api.ErrModel},
	} {
		// Each kind, and both in turns.
		for turn := range 4 {
			var l []api.Rewrite
			for i, name := range x.names {
				l = append(l, api.Rewrite{Dest: []bool{false, true, i%2 == 0, i%2 == 1}[turn], Filter: name, To: api.Addr(i)})
			}
			answers(t, s, l, filters, x.want)
		}
	}
	for _, none := range [][]api.Filter{nil, {}, filters[:0]} {
		answers(t, s, []api.Rewrite{{Filter: "good"}}, none, api.ErrRef)
		answers(t, s, []api.Rewrite{{To: 1}}, none, api.OK)
	}
}

// P11.1: rules that may not be, for each reason.
func TestCheckRules(t *testing.T) {
	s := space(t)
	for _, r := range []api.Rule{
		{Proto: 256}, {Proto: -2}, {Src: api.Prefix{Bits: 33}}, {Dst: api.Prefix{Addr: 1}}, {Src: api.Prefix{Bits: -1}}, {SrcPorts: api.Span{Lo: 2, Hi: 1}}, {DstPorts: api.Span{Hi: 65536}},
	} {
		for _, dest := range kinds {
			// Also where no header comes to that rule, or no rewrite to that filter.
			f := []api.Filter{{Name: "f", Rules: []api.Rule{anything(true), r}}}
			answers(t, s, []api.Rewrite{{Dest: dest, Filter: "f"}}, f, api.ErrModel)
			answers(t, s, []api.Rewrite{{Dest: dest}, {Dest: dest, Filter: "f"}}, f, api.ErrModel)
		}
	}
}

// P11.1, R5: as many rewrites as may be, and one more, which is told ahead of all that is wrong with them.
func TestCheckMany(t *testing.T) {
	s := space(t)
	_, f := example()
	for _, x := range []struct {
		one  api.Rewrite
		want api.Errno
	}{{api.Rewrite{}, api.OK}, {api.Rewrite{Filter: "f"}, api.OK}, {api.Rewrite{Dest: true, Filter: "g"}, api.OK}, {api.Rewrite{Filter: "h"}, api.ErrRef}} {
		l := slices.Repeat([]api.Rewrite{x.one}, api.MaxRules)
		answers(t, s, l, f, x.want)
		answers(t, s, append(l, x.one), f, api.ErrArg)
		answers(t, s, slices.Repeat(l, 300), f, api.ErrArg)
		both := slices.Clone(l)
		for i := range both[:api.MaxRules/2] {
			both[i].Dest = !both[i].Dest
		}
		answers(t, s, both, f, x.want)
		answers(t, s, append(both, api.Rewrite{}), f, api.ErrArg)
		// What stands behind the end is no rewrite of it (R3).
		answers(t, s, append(l, x.one)[:api.MaxRules], f, x.want)
	}
	last := slices.Repeat([]api.Rewrite{{Filter: "g"}}, api.MaxRules)
	last[api.MaxRules-1].Filter = "h"
	answers(t, s, last, f, api.ErrRef)
	answers(t, s, last[:api.MaxRules-1], f, api.OK)
}

// R1, R5: no space is told ahead of all else.
func TestNoSpace(t *testing.T) {
	l, f := example()
	for _, list := range [][]api.Rewrite{nil, l, {{Filter: "h"}}, make([]api.Rewrite, api.MaxRules+1)} {
		for _, set := range []int{-1, 0, 1, 2, math.MaxInt} {
			for _, dest := range kinds {
				for what, of := range inSpace(nil, list, f, dest, set) {
					if n, e := of(); n != 0 || e != api.ErrNil {
						t.Error(what, n, e)
					}
				}
				// One that New has not made is of no use, but nothing panics.
				for _, of := range inSpace(&rel.Space{}, list, f, dest, set) {
					of()
				}
			}
		}
	}
}

// P11.2, R5: what is no set of the space is refused, but behind what is wrong with the list, and ahead of that there is no room.
func TestNoSet(t *testing.T) {
	l, f := example()
	s := space(t)
	node := ok[int](t)
	keep, put := node(s.Keep()), node(s.Put(rel.Src, 5))
	lan := node(s.Prefix(rel.Src, ten))
	small, _ := rel.New(0)
	for _, x := range []struct {
		s    *rel.Space
		sets []int
	}{{s, []int{math.MinInt, -1, keep, put, s.Used() + 2, s.Used() + 100, 1 << 32, 1<<32 + 1, 1<<32 + lan, math.MaxInt}}, {small, []int{math.MinInt, -1, 2, 3, lan, math.MaxInt}}} {
		used := x.s.Used()
		for _, set := range x.sets {
			for _, dest := range kinds {
				for _, y := range []struct {
					l    []api.Rewrite
					want api.Errno
				}{{l, api.ErrArg}, {nil, api.ErrArg}, {[]api.Rewrite{{To: 1}}, api.ErrArg}, {[]api.Rewrite{{Filter: "h"}}, api.ErrRef}, {[]api.Rewrite{{Filter: "bad"}}, api.ErrModel}} {
					calls := inSpace(x.s, y.l, append(f, api.Filter{Name: "bad", Rules: []api.Rule{{Proto: 256}}}), dest, set)
					for _, what := range []string{"Image", "Preimage"} {
						if n, e := calls[what](); n != 0 || e != y.want {
							t.Error(what, set, n, e, y.want)
						}
					}
				}
			}
		}
		if x.s.Used() != used {
			t.Error("what was refused has made nodes:", x.s.Used(), used)
		}
	}
	for _, set := range []int{0, 1, lan} {
		for what, of := range inSpace(s, l, f, false, set) {
			if _, e := of(); e != api.OK {
				t.Error(what, set, e)
			}
		}
	}
}

// P11.2: where there is no room at all, what needs none is answered, and all else refused.
func TestNoRoom(t *testing.T) {
	l, f := example()
	for _, dest := range kinds {
		all := []api.Rewrite{{Dest: dest, To: 1}, {Dest: dest, Filter: "f", To: 2}}
		for _, x := range []struct {
			name string
			l    []api.Rewrite
			set  int
			want api.Errno
		}{
			{"Image", nil, 0, api.OK}, {"Image", nil, 1, api.OK}, {"Preimage", nil, 0, api.OK}, {"Preimage", nil, 1, api.OK}, {"Image", l, 0, api.OK},
			{"Relation", nil, 0, api.ErrFull}, {"Relation", all, 0, api.ErrFull}, {"Image", all, 1, api.ErrFull}, {"Relation", l, 0, api.ErrFull}, {"Image", l, 1, api.ErrFull},
		} {
			s, _ := rel.New(0)
			n, e := inSpace(s, x.l, f, dest, x.set)[x.name]()
			if e != x.want || e == api.OK && n != x.set || e != api.OK && n != 0 || s.Used() != 0 {
				t.Error(x.name, x.l, x.set, n, e)
			}
		}
	}
}

// P11.2: rewrites that apply to nothing take no room, and where one applies to all nothing is left for which there must be any.
func TestNoneLeft(t *testing.T) {
	_, f := example()
	f = append(f, api.Filter{Name: "none"})
	for _, dest := range kinds {
		for _, what := range []string{"Image", "Preimage"} {
			s, _ := rel.New(0)
			if n, e := inSpace(s, []api.Rewrite{{Dest: dest, Filter: "none", To: 1}}, f, dest, 1)[what](); n != 1 || e != api.OK {
				t.Error(what, n, e)
			}
		}
		field := rel.Src
		if dest {
			field = rel.Dst
		}
		large := space(t)
		ok[int](t)(large.Put(field, 7))
		s, _ := rel.New(large.Used())
		put := ok[int](t)(s.Put(field, 7))
		l := []api.Rewrite{{Dest: dest, Filter: "none", To: 1}, {Dest: dest, Filter: "g", To: 7}, {Dest: dest, Filter: "f", To: 2}, {Dest: dest, To: 3}}
		if n, e := rewrite.Relation(s, l, f, dest); n != put || e != api.OK {
			t.Error(n, e)
		}
	}
}

// P11.2: with less room each answer is the same, or ErrFull; what was answered ahead is answered still.
func TestLessRoom(t *testing.T) {
	l, f := example()
	large := space(t)
	lan := ok[int](t)(large.Prefix(rel.Src, ten))
	wants := map[string]int{}
	for what, of := range inSpace(large, l, f, false, lan) {
		wants[what] = ok[int](t)(of())
	}
	full, answered := 0, 0
	for most := 8; most < large.Used()+300; most++ {
		for _, what := range []string{"Relation", "Image", "Preimage"} {
			s, _ := rel.New(most)
			held := ok[int](t)(s.Prefix(rel.Src, ten))
			n, e := inSpace(s, l, f, false, held)[what]()
			switch e {
			case api.OK:
				answered++
				alike(t, s, n, large, wants[what])
			case api.ErrFull:
				full++
				if n != 0 {
					t.Error(most, what, n)
				}
			default:
				t.Fatal(most, what, e)
			}
			if again, e := s.Prefix(rel.Src, ten); again != held || e != api.OK {
				t.Error(most, what, again, e)
			}
		}
	}
	if full < 100 || answered < 100 {
		t.Error(full, "full,", answered, "answered")
	}
}

// alike looks whether nodes of two spaces lead to the same from some headers, and from as many.
func alike(t *testing.T, s *rel.Space, a int, other *rel.Space, b int) {
	t.Helper()
	to := []api.Header{{}, greatest, {Src: 0x01020304}, {Src: 0x09090909, Dst: 5}, {Src: 0x0A000001}}
	for _, h := range append(to, api.Header{Src: 0x0B000001, Dst: 5}) {
		for _, g := range to {
			is, e := s.Leads(a, h, g)
			want, x := other.Leads(b, h, g)
			if is != want || e != x {
				t.Fatal(h, g, is, e, want, x)
			}
		}
	}
	c, e := s.Count(a)
	want, x := other.Count(b)
	if c != want || e != x {
		t.Fatal(c, e, want, x)
	}
}

// R2, R3: what is handed in is not changed, and not kept; asked again, each call answers the same, and takes no more room.
func TestAsItWas(t *testing.T) {
	s := space(t)
	l, f := example()
	l = append(l, api.Rewrite{Filter: "h"})[:3]
	f[0].Rules = append(f[0].Rules, api.Rule{Proto: 256})[:1]
	f = append(f, api.Filter{Name: "f"})[:2]
	before, filters := example()
	lan := ok[int](t)(s.Prefix(rel.Src, ten))
	for _, dest := range kinds {
		first := map[string]int{}
		for what, of := range inSpace(s, l, f, dest, lan) {
			first[what] = ok[int](t)(of())
		}
		used := s.Used()
		for range 2 {
			for what, of := range inSpace(s, l, f, dest, lan) {
				if n := ok[int](t)(of()); n != first[what] || s.Used() != used {
					t.Error(what, n, first[what], s.Used(), used)
				}
			}
			applies(t, l, f, dest, api.Header{Src: 0x0A000001}, plainFirst(l, f, dest, api.Header{Src: 0x0A000001}))
		}
	}
	if !slices.Equal(l, before) || !reflect.DeepEqual(f, filters) || l[:4][3].Filter != "h" || f[0].Rules[:2][1].Proto != 256 || f[:3][2].Name != "f" {
		t.Error(l, f)
	}
	// Written into what was handed in: the next answer is that of what stands there then.
	f[0].Rules[0].Permit = false
	applies(t, l, f, false, api.Header{Src: 0x0A000001}, 2)
	l[2].To = 77
	applies(t, l, f, false, api.Header{Src: 0x0A000001}, 2)
	if n := ok[int](t)(rewrite.Relation(s, l, f, false)); n != ok[int](t)(s.Put(rel.Src, 77)) {
		t.Error(n)
	}
}

// R2: spaces do not see one another.
func TestTwoSpaces(t *testing.T) {
	l, f := example()
	s, other := space(t), space(t)
	n := ok[int](t)(rewrite.Image(s, l, f, false, 1))
	if other.Used() != 0 {
		t.Error(other.Used())
	}
	if _, e := rewrite.Preimage(other, l, f, false, n); e != api.ErrArg {
		t.Error(e)
	}
	alike(t, s, n, other, ok[int](t)(rewrite.Image(other, l, f, false, 1)))
}
