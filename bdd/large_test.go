package bdd_test

import (
	"slices"
	"testing"

	"waymark/api"
	"waymark/bdd"
)

// ok is a call's answer; nothing may be refused.
func ok[T any](t *testing.T) func(T, api.Errno) T {
	return func(v T, e api.Errno) T {
		t.Helper()
		if e != api.OK {
			t.Fatal(e)
		}
		return v
	}
}

// row are the numbers from one on, so many, so far from one another.
func row(from, many, step int) []int {
	list := make([]int, many)
	for i := range list {
		list[i] = from + i*step
	}
	return list
}

// P5.2, P5.3: a function whose diagram is small, but has more ways through it than could be gone over one by one.
func TestManyWays(t *testing.T) {
	a, _ := bdd.New(bdd.MaxVars, 16*bdd.MaxVars)
	node, list, count := ok[int](t), ok[[]int](t), ok[api.Count](t)
	odd := 0
	for i := bdd.MaxVars - 1; i >= 0; i-- {
		odd = node(a.Xor(node(a.Var(i)), odd))
	}
	if size := node(a.Size(odd)); size != 2*bdd.MaxVars-1 {
		t.Error("Size:", size)
	}
	if l := list(a.Support(odd)); !slices.Equal(l, row(0, bdd.MaxVars, 1)) {
		t.Error("Support:", l)
	}
	even := node(a.Not(odd))
	if f := node(a.Or(odd, even)); f != 1 {
		t.Error("Or:", f)
	}
	if f := node(a.Rename(odd, row(0, bdd.MaxVars, 1), row(0, bdd.MaxVars, 1))); f != odd {
		t.Error("Rename to itself:", f)
	}
	if f := node(a.Restrict(node(a.Restrict(odd, 255, true)), 255, true)); f != node(a.Restrict(even, 255, false)) {
		t.Error("Restrict:", f)
	}
	if e, f := node(a.Exists(odd, 255)), node(a.Forall(odd, 0, 128)); e != 1 || f != 0 {
		t.Error("Exists, Forall:", e, f)
	}
	short := 0
	for i := 126; i >= 0; i-- {
		short = node(a.Xor(node(a.Var(2*i)), short))
	}
	if c := count(a.Count(short, row(0, 127, 2))); c != (api.Count{Hi: 1 << 62}) {
		t.Error("Count:", c)
	}
	values, e := a.Least(short, row(0, 127, 2))
	if e != api.OK || len(values) != 127 || slices.Index(values, true) != 126 {
		t.Error("Least:", values, e)
	}
}

// P5.3: counts over as many variables as can be counted over, and one more; each place of the count's two halves.
func TestLargeCounts(t *testing.T) {
	a, _ := bdd.New(bdd.MaxVars, api.MaxNodes)
	count := ok[api.Count](t)
	for many := range 128 {
		want := api.Count{Lo: 1 << many}
		if many > 63 {
			want = api.Count{Hi: 1 << (many - 64)}
		}
		if c := count(a.Count(1, row(3, many, 1))); c != want {
			t.Error(many, c)
		}
		if c := count(a.Count(0, row(3, many, 1))); c != (api.Count{}) {
			t.Error(many, c)
		}
	}
	f := 1
	for i := range 127 {
		x, _ := a.Var(2 * i)
		if c := count(a.Count(x, row(0, 127, 2))); c != (api.Count{Hi: 1 << 62}) {
			t.Error(i, c)
		}
		if c := count(a.Count(x, row(2*min(i, 27), 100, 2))); c != (api.Count{Hi: 1 << 35}) {
			t.Error(i, c)
		}
		f, _ = a.And(f, x)
		if c := count(a.Count(f, row(0, 127, 2))); i < 126 && c.Hi|c.Lo == 0 || i == 126 && c != (api.Count{Lo: 1}) {
			t.Error(i, c)
		}
		// f and not f are together all: P5.5.
		not, _ := a.Not(f)
		c, d := count(a.Count(f, row(0, 127, 2))), count(a.Count(not, row(0, 127, 2)))
		lo := c.Lo + d.Lo
		hi := c.Hi + d.Hi
		if lo < c.Lo {
			hi++
		}
		if lo != 0 || hi != 1<<63 {
			t.Error(i, c, d)
		}
	}
	for _, over := range [][]int{row(0, 128, 1), row(0, 128, 2), row(0, 256, 1)} {
		if c, e := a.Count(1, over); c != (api.Count{}) || e != api.ErrArg {
			t.Error(len(over), c, e)
		}
		if l, e := a.Least(1, over); len(l) != len(over) || slices.Contains(l, true) || e != api.OK {
			t.Error(len(over), l, e)
		}
	}
}

// P5.2, P5.6: what stands in no answer's diagram takes no room: the way to a small answer leads over functions for which there would be none.
func TestRoomOnTheWay(t *testing.T) {
	const pairs = 9
	build := func(a *bdd.Arena) int {
		f := 1
		for i := pairs - 1; i >= 0; i-- {
			x, _ := a.Var(i)
			y, _ := a.Var(i + pairs)
			both, e := a.Xor(x, y)
			if e != api.OK {
				t.Fatal(e)
			}
			f, e = a.And(both, f)
			if e != api.OK {
				t.Fatal(e)
			}
		}
		return f
	}
	large, _ := bdd.New(2*pairs+1, api.MaxNodes)
	build(large)
	full := large.Used()
	a, _ := bdd.New(2*pairs+1, full)
	f := build(a)
	if used := a.Used(); used != full {
		t.Fatal(used, full)
	}
	for what, over := range map[string][]int{"first": row(0, pairs, 1), "last": row(pairs, pairs, 1)} {
		if n, e := a.Exists(f, over...); n != 1 || e != api.OK {
			t.Error(what, n, e)
		}
		if n, e := a.Forall(f, over...); n != 0 || e != api.OK {
			t.Error(what, n, e)
		}
	}
	if n, e := a.Rename(f, row(0, pairs, 1), row(pairs, pairs, 1)); n != 0 || e != api.OK {
		t.Error("Rename:", n, e)
	}
	about, back := append(row(0, pairs, 1), row(pairs, pairs, 1)...), append(row(pairs, pairs, 1), row(0, pairs, 1)...)
	if n, e := a.Rename(f, about, back); n != f || e != api.OK {
		t.Error("Rename about:", n, e)
	}
	if n, e := a.Var(2 * pairs); n != 0 || e != api.ErrFull || a.Used() != full {
		t.Error("one more:", n, e, a.Used())
	}
	if n, e := a.Not(f); n != 0 || e != api.ErrFull || a.Used() != full {
		t.Error("Not:", n, e, a.Used())
	}
	if n, e := a.And(f, 1); n != f || e != api.OK {
		t.Error("what is there:", n, e)
	}
}

// equal is the function of that each of some variables is the same as the one so far behind it.
func equal(t *testing.T, a *bdd.Arena, first, many, far int) int {
	node := ok[int](t)
	f := 1
	for i := first; i < first+many; i++ {
		same := node(a.Not(node(a.Xor(node(a.Var(i)), node(a.Var(i+far))))))
		f = node(a.And(f, same))
	}
	return f
}

// P5.6: an answer for which there is no room by far is refused, and not made first.
func TestAnswersTooLarge(t *testing.T) {
	const many = 13
	a, _ := bdd.New(4*many, 1<<18)
	f, g := equal(t, a, 0, many, 2*many), equal(t, a, many, many, 2*many)
	used := a.Used()
	for what, call := range map[string]func() (int, api.Errno){
		"And": func() (int, api.Errno) { return a.And(f, g) },
		"Or":  func() (int, api.Errno) { return a.Or(f, g) },
		"Xor": func() (int, api.Errno) { return a.Xor(f, g) },
		"Ite": func() (int, api.Errno) { return a.Ite(f, g, 1) },
	} {
		if n, e := call(); n != 0 || e != api.ErrFull || a.Used() != used {
			t.Error(what, n, e, a.Used())
		}
	}
	if n, e := a.And(f, f); n != f || e != api.OK {
		t.Error(n, e)
	}
}

// R3: what is handed in stays as it is, and what is handed out is new.
func TestShares(t *testing.T) {
	a, _ := bdd.New(3, 50)
	x, _ := a.Var(0)
	z, _ := a.Var(2)
	f, _ := a.Or(x, z)
	room := []int{0, 2, 1, 7}
	values := []bool{true, false, false, true}
	a.Exists(f, room[:2]...)
	a.Forall(f, room[:2]...)
	a.Rename(f, room[:2], room[1:3])
	a.Count(f, room[:2])
	a.At(f, values[:3])
	least, _ := a.Least(f, room[:2])
	support, _ := a.Support(f)
	if !slices.Equal(room, []int{0, 2, 1, 7}) || !slices.Equal(values, []bool{true, false, false, true}) {
		t.Error(room, values)
	}
	for i := range least[:cap(least)] {
		least[:cap(least)][i] = true
	}
	for i := range support[:cap(support)] {
		support[:cap(support)][i] = 9
	}
	least, _ = a.Least(f, room[:2])
	support, _ = a.Support(f)
	if !slices.Equal(least, []bool{false, true}) || !slices.Equal(support, []int{0, 2}) {
		t.Error(least, support)
	}
}

// R2: arenas do not see one another.
func TestTwoArenas(t *testing.T) {
	a, _ := bdd.New(2, 4)
	b, _ := bdd.New(5, 4)
	x, _ := a.Var(1)
	if b.Used() != 0 {
		t.Error(b.Used())
	}
	if _, e := b.Size(x); e != api.ErrArg {
		t.Error(e)
	}
	y, _ := b.Var(4)
	if is, e := a.At(x, []bool{false, true}); !is || e != api.OK {
		t.Error(is, e)
	}
	if l, _ := b.Support(y); !slices.Equal(l, []int{4}) {
		t.Error(l)
	}
}
