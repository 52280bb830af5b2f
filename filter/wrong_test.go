package filter_test

import (
	"math"
	"slices"
	"strings"
	"testing"

	"waymark/api"
	"waymark/filter"
	"waymark/rel"
)

// plainMay tells whether a rule may be, field by field.
func plainMay(r api.Rule) bool {
	for _, p := range []api.Prefix{r.Src, r.Dst} {
		if plainPrefix(p) == (extent{}) {
			return false
		}
	}
	for _, x := range []api.Span{r.SrcPorts, r.DstPorts} {
		if x.Lo > x.Hi || x.Lo > 65535 || x.Hi > 65535 {
			return false
		}
	}
	return r.Proto == -1 || r.Proto >= 0 && r.Proto < 256
}

// mayBe looks whether all calls take a filter, or all refuse it, with nothing beside the error (R4).
func mayBe(t *testing.T, s *rel.Space, f api.Filter, may bool) {
	t.Helper()
	want := api.OK
	if !may {
		want = api.ErrModel
	}
	if e := filter.Check(f); e != want {
		t.Fatalf("Check(%v): %v", f, e)
	}
	if i, e := filter.Decides(f, api.Header{}); e != want || !may && i != 0 {
		t.Fatalf("Decides(%v): %d %v", f, i, e)
	}
	if permits, e := filter.Permits(f, api.Header{}); e != want || !may && permits {
		t.Fatalf("Permits(%v): %v %v", f, permits, e)
	}
	if n, e := filter.Set(s, f); e != want || !may && n != 0 {
		t.Fatalf("Set(%v): %d %v", f, n, e)
	}
	if l, e := filter.Rules(s, f); e != want || !may && len(l) != 0 || may && len(l) != len(f.Rules) {
		t.Fatalf("Rules(%v): %v %v", f, l, e)
	}
}

// P10.1, P10.3: each of these rules, alone and among others; a rule that may not be has no text.
func TestCheckEach(t *testing.T) {
	s := space(t)
	may := 0
	for _, r := range someRules() {
		is := plainMay(r)
		if is {
			may++
		}
		for _, permit := range []bool{false, true} {
			r.Permit = permit
			mayBe(t, s, api.Filter{Name: "f", Rules: []api.Rule{r}}, is)
			mayBe(t, s, api.Filter{Rules: []api.Rule{anything(true), r}}, is)
			mayBe(t, s, api.Filter{Rules: []api.Rule{r, example().Rules[0], anything(false)}}, is)
			text, e := filter.Text(r)
			if is && (e != api.OK || text == "") || !is && (e != api.ErrModel || text != "") {
				t.Errorf("Text(%v): %q %v", r, text, e)
			}
		}
	}
	if may < 50 {
		t.Error("only", may, "may be")
	}
}

// P10.1: the chapter's example, and both that are wrong at once.
func TestCheckKnown(t *testing.T) {
	s := space(t)
	for _, r := range []api.Rule{
		{Proto: 256}, {SrcPorts: api.Span{Lo: 2, Hi: 1}}, {DstPorts: api.Span{Hi: 65536}}, {Proto: -2}, {Src: api.Prefix{Addr: 1}}, {Dst: api.Prefix{Bits: 33}},
		{Proto: 256, Src: api.Prefix{Bits: -1}, DstPorts: api.Span{Lo: 1}},
	} {
		mayBe(t, s, api.Filter{Rules: []api.Rule{r}}, false)
	}
	mayBe(t, s, api.Filter{Rules: []api.Rule{{}}}, true)
	mayBe(t, s, example(), true)
	mayBe(t, s, api.Filter{}, true)
}

// P10.1: as many rules as may be, and one more; one that may not be among them at each place.
func TestCheckMany(t *testing.T) {
	s := space(t)
	rules := slices.Repeat([]api.Rule{{Permit: true, Proto: 6}}, api.MaxRules)
	mayBe(t, s, api.Filter{Rules: rules}, true)
	mayBe(t, s, api.Filter{Rules: append(slices.Clone(rules), rules[0])}, false)
	mayBe(t, s, api.Filter{Rules: append(slices.Clone(rules), api.Rule{Proto: 256})}, false)
	mayBe(t, s, api.Filter{Rules: slices.Repeat([]api.Rule{anything(true)}, 70000)}, false)
	for i := range rules {
		wrong := slices.Clone(rules)
		wrong[i].DstPorts.Hi = 65536
		mayBe(t, s, api.Filter{Rules: wrong}, false)
		// What stands behind the end is not a rule of it (R3).
		mayBe(t, s, api.Filter{Rules: wrong[:i]}, true)
	}
}

// P10.1: a filter's name is not looked at.
func TestCheckNames(t *testing.T) {
	s := space(t)
	for _, name := range []string{"", "f", "0", " ", "\x00", "\xff", "a b", strings.Repeat("n", api.MaxName+1), strings.Repeat("\n", 1<<20)} {
		mayBe(t, s, api.Filter{Name: name, Rules: example().Rules}, true)
		mayBe(t, s, api.Filter{Name: name, Rules: []api.Rule{{Proto: 256}}}, false)
	}
}

// P10.2, R5: no space, then a filter that may not be, then no room.
func TestErrorsInOrder(t *testing.T) {
	small, e := rel.New(0)
	if e != api.OK {
		t.Fatal(e)
	}
	wrong := api.Filter{Rules: []api.Rule{example().Rules[0], {Proto: 256}}}
	long := api.Filter{Rules: make([]api.Rule, api.MaxRules+1)}
	for _, x := range []struct {
		s    *rel.Space
		f    api.Filter
		want api.Errno
	}{
		{nil, example(), api.ErrNil}, {nil, wrong, api.ErrNil}, {nil, long, api.ErrNil}, {nil, api.Filter{}, api.ErrNil}, {nil, api.Filter{Rules: []api.Rule{anything(true)}}, api.ErrNil},
		{small, wrong, api.ErrModel}, {small, long, api.ErrModel}, {small, example(), api.ErrFull}, {space(t), wrong, api.ErrModel}, {space(t), long, api.ErrModel},
	} {
		for range 2 {
			if n, e := filter.Set(x.s, x.f); n != 0 || e != x.want {
				t.Error("Set", x.f, n, e, x.want)
			}
			if l, e := filter.Rules(x.s, x.f); len(l) != 0 || e != x.want {
				t.Error("Rules", x.f, l, e, x.want)
			}
		}
		if x.want == api.ErrModel && x.s.Used() != 0 {
			t.Error("what was refused has made nodes:", x.s.Used())
		}
	}
}

// R1: a space that New has not made is of no use, but nothing panics.
func TestNoSpace(t *testing.T) {
	for _, f := range []api.Filter{example(), {}, {Rules: []api.Rule{anything(true)}}, {Rules: []api.Rule{{Proto: 256}}}} {
		filter.Set(&rel.Space{}, f)
		filter.Rules(&rel.Space{}, f)
	}
}

// P10.2: where there is no room at all, what needs none is answered.
func TestNoRoom(t *testing.T) {
	s, _ := rel.New(0)
	for _, x := range []struct {
		rules []api.Rule
		set   int
		each  []int
	}{
		{nil, 0, nil},
		{[]api.Rule{anything(true)}, 1, []int{1}},
		{[]api.Rule{anything(false)}, 0, []int{1}},
		{[]api.Rule{anything(true), anything(false)}, 1, []int{1, 0}},
		{[]api.Rule{anything(false), anything(true), anything(false)}, 0, []int{1, 0, 0}},
	} {
		if n, e := filter.Set(s, api.Filter{Rules: x.rules}); n != x.set || e != api.OK {
			t.Error("Set", x.rules, n, e)
		}
		if l, e := filter.Rules(s, api.Filter{Rules: x.rules}); !slices.Equal(l, x.each) || e != api.OK {
			t.Error("Rules", x.rules, l, e)
		}
	}
	// A protocol has eight bits: of each of them the set has a node.
	six := api.Filter{Rules: []api.Rule{{Permit: true, Proto: 6, SrcPorts: allPorts, DstPorts: allPorts}}}
	for most := range 8 {
		s, _ := rel.New(most)
		if n, e := filter.Set(s, six); n != 0 || e != api.ErrFull {
			t.Error(most, n, e)
		}
	}
}

// P10.2: with less room each answer is the same, or ErrFull; what was answered ahead is answered still.
func TestLessRoom(t *testing.T) {
	large := space(t)
	node := ok[int](t)
	want := node(filter.Set(large, example()))
	each := ok[[]int](t)(filter.Rules(large, example()))
	full, answered := 0, 0
	for most := range large.Used() + 50 {
		s, e := rel.New(most)
		if e != api.OK {
			t.Fatal(e)
		}
		held, had := s.Numbers(rel.Proto, []api.Span{{Lo: 17, Hi: 17}})
		n, e := filter.Set(s, example())
		l, g := filter.Rules(s, example())
		for _, e := range []api.Errno{e, g} {
			switch e {
			case api.OK:
				answered++
			case api.ErrFull:
				full++
			default:
				t.Fatal(most, e)
			}
		}
		if e == api.OK {
			same(t, s, n, large, want)
		} else if n != 0 {
			t.Error(most, n, e)
		}
		if g != api.OK && len(l) != 0 || g == api.OK && len(l) != len(each) {
			t.Fatal(most, l, g)
		}
		for i, n := range l {
			same(t, s, n, large, each[i])
		}
		if again, e := s.Numbers(rel.Proto, []api.Span{{Lo: 17, Hi: 17}}); had == api.OK && (again != held || e != api.OK) {
			t.Error(most, again, held, e)
		}
	}
	if full < 20 || answered < 20 {
		t.Error(full, "full,", answered, "answered")
	}
}

// same looks whether sets of two spaces have as many headers, and the same least one.
func same(t *testing.T, s *rel.Space, a int, other *rel.Space, b int) {
	t.Helper()
	c, e := s.Count(a)
	want, g := other.Count(b)
	if c != want || e != g {
		t.Fatal(c, e, want, g)
	}
	h, e := s.Least(a)
	least, g := other.Least(b)
	if h != least || e != g {
		t.Fatal(h, e, least, g)
	}
}

// R3: what is handed in is not changed, and not kept.
func TestAsItWas(t *testing.T) {
	s := space(t)
	room := append(example().Rules, api.Rule{Proto: 256}, anything(false))
	f := api.Filter{Name: "f", Rules: room[:3]}
	set := ok[int](t)(filter.Set(s, f))
	each := ok[[]int](t)(filter.Rules(s, f))
	for range 2 {
		decides(t, f.Rules, api.Header{Src: 0x0A000001}, 1)
		filter.Check(f)
		for _, r := range f.Rules {
			filter.Text(r)
		}
	}
	if !slices.Equal(room, append(example().Rules, api.Rule{Proto: 256}, anything(false))) || f.Name != "f" || len(f.Rules) != 3 {
		t.Error(f, room)
	}
	// Written into what was answered: no later answer shows it.
	kept := slices.Clone(each)
	for i := range each {
		each[i] = math.MinInt
	}
	each = append(each, 5)
	again := ok[[]int](t)(filter.Rules(s, f))
	if !slices.Equal(again, kept) {
		t.Error(again, kept)
	}
	room[2].Permit = false
	if other := ok[int](t)(filter.Set(s, f)); other == set {
		t.Error("kept")
	}
	room[2].Permit = true
	if other := ok[int](t)(filter.Set(s, f)); other != set {
		t.Error(other, set)
	}
}
