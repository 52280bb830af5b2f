package bdd_test

import (
	"math"
	"slices"
	"testing"

	"waymark/api"
	"waymark/bdd"
)

// took holds what a call has answered against the function that was to come, the room, and what was answered before.
func (w *world) took(t *testing.T, what any, n int, e api.Errno, want table) {
	t.Helper()
	fresh := w.fresh(want)
	if len(w.held)+len(fresh) > w.most {
		if n != 0 || e != api.ErrFull {
			t.Fatalf("%v: %d %v, with %d more than %d of %d nodes", what, n, e, len(fresh), len(w.held), w.most)
		}
		fresh = nil
	} else {
		old, is := w.tables[n]
		m, was := w.numbers[want]
		if e != api.OK || is && old != want || was && m != n {
			t.Fatalf("%v: %d %v for %b: %d before, and %d for %b", what, n, e, want, m, n, old)
		}
		w.tables[n], w.numbers[want] = want, n
	}
	for _, f := range fresh {
		w.held[f] = 1
	}
	if got := w.Used(); got != len(w.held) {
		t.Fatalf("%v: Used is %d, not %d", what, got, len(w.held))
	}
}

// step makes one of the calls that answer a node, by numbers that are as good as any.
func (w *world) step(t *testing.T, next func(int) int) {
	t.Helper()
	nodes := w.nodes()
	f, g, h := nodes[next(len(nodes))], nodes[next(len(nodes))], nodes[next(len(nodes))]
	tf, tg, th := w.tables[f], w.tables[g], w.tables[h]
	all := w.tables[1]
	kind := next(10)
	if w.vars == 0 && kind < 2 {
		kind = 2
	}
	var n int
	var e api.Errno
	var want table
	var i int
	over, to := []int{}, []int{}
	if w.vars > 0 {
		i = next(w.vars)
		for range next(4) {
			over, to = append(over, next(w.vars)), append(to, next(w.vars))
		}
	}
	switch kind {
	case 0:
		n, e = w.Var(i)
		want = made(w.vars, func(values int) bool { return value(w.vars, values, i) })
	case 1:
		v := next(2) == 1
		n, e = w.Restrict(f, i, v)
		want = tf.restrict(w.vars, i, v)
	case 2:
		n, e = w.Not(f)
		want = all &^ tf
	case 3:
		n, e = w.And(f, g)
		want = tf & tg
	case 4:
		n, e = w.Or(f, g)
		want = tf | tg
	case 5:
		n, e = w.Xor(f, g)
		want = tf ^ tg
	case 6:
		n, e = w.Ite(f, g, h)
		want = tf&tg | th&^tf
	case 7:
		n, e = w.Exists(f, over...)
		want = tf.exists(w.vars, over)
	case 8:
		n, e = w.Forall(f, over...)
		want = tf.forall(w.vars, over)
	case 9:
		from := slices.Compact(slices.Sorted(slices.Values(over)))
		to = to[:len(from)]
		n, e = w.Rename(f, from, to)
		want = tf.rename(w.vars, from, to)
	}
	w.took(t, []int{w.vars, w.most, kind, f, g, h, i}, n, e, want)
}

// told holds all that can be asked of the nodes against their functions.
func (w *world) told(t *testing.T) {
	t.Helper()
	for n, f := range w.tables {
		for values := range 1 << w.vars {
			if is, e := w.At(n, bools(w.vars, values)); is != f.at(values) || e != api.OK {
				t.Fatalf("At(%b, %b): %t %v", f, values, is, e)
			}
		}
		if size, e := w.Size(n); size != len(f.diagram(w.vars)) || e != api.OK {
			t.Fatalf("Size(%b): %d %v", f, size, e)
		}
		if l, e := w.Support(n); !slices.Equal(l, f.support(w.vars)) || e != api.OK {
			t.Fatalf("Support(%b): %v %v", f, l, e)
		}
		for set := range 1 << w.vars {
			w.toldOver(t, n, f, subset(set))
		}
	}
}

// toldOver holds what is told of a node's values over a list.
func (w *world) toldOver(t *testing.T, n int, f table, over []int) {
	t.Helper()
	count, e := w.Count(n, over)
	least, e2 := w.Least(n, over)
	for _, v := range f.support(w.vars) {
		if !slices.Contains(over, v) {
			if e != api.ErrArg || e2 != api.ErrArg || count != (api.Count{}) || least != nil {
				t.Fatalf("over %v, of %b: %v %v, %v %v", over, f, count, e, least, e2)
			}
			return
		}
	}
	many, number := f.counted(w.vars, over)
	if e != api.OK || count != (api.Count{Lo: many}) {
		t.Fatalf("Count(%b, %v): %v %v", f, over, count, e)
	}
	if number < 0 {
		if e2 != api.ErrNone || least != nil {
			t.Fatalf("Least(%b, %v): %v %v", f, over, least, e2)
		}
	} else if e2 != api.OK || !slices.Equal(least, bools(len(over), number)) {
		t.Fatalf("Least(%b, %v): %v %v", f, over, least, e2)
	}
}

// numbers tell numbers below others that are as good as any, and always the same.
func numbers(seed uint64) func(int) int {
	return func(below int) int {
		seed = seed*6364136223846793005 + 1442695040888963407
		return int(seed >> 33 % uint64(below))
	}
}

// P5.1 to P5.6: many calls one behind the other, with little room and with enough.
func TestManyCalls(t *testing.T) {
	for vars := range 5 {
		for most := range 50 {
			for seed := range vars {
				next := numbers(uint64(1000*seed + most))
				w := newWorld(vars, most)
				for range 100 {
					w.step(t, next)
				}
				w.told(t)
			}
		}
	}
}

// allOf are all functions of three variables, by what is true of them.
func allOf(t *testing.T) *world {
	w := newWorld(3, 300)
	var one []int
	for values := range 8 {
		f := 1
		for i := range 3 {
			x, e := w.Var(i)
			if !value(3, values, i) {
				x, e = w.Not(x)
			}
			f, _ = w.And(f, x)
			if e != api.OK {
				t.Fatal(e)
			}
		}
		one = append(one, f)
	}
	for f := range table(256) {
		n := 0
		for values, m := range one {
			if f.at(values) {
				n, _ = w.Or(n, m)
			}
		}
		w.tables[n], w.numbers[f] = f, n
		for _, g := range w.fresh(f) {
			w.held[g] = 1
		}
	}
	if len(w.tables) != 256 || w.Used() != 254 {
		t.Fatal(len(w.tables), w.Used())
	}
	return w
}

// P5.1, P5.4: each two functions of three variables, and each three of some.
func TestAllTwo(t *testing.T) {
	w := allOf(t)
	w.told(t)
	for f, tf := range w.tables {
		n, e := w.Not(f)
		w.took(t, "Not", n, e, 255&^tf)
		for g, tg := range w.tables {
			n, e = w.And(f, g)
			w.took(t, "And", n, e, tf&tg)
			n, e = w.Or(f, g)
			w.took(t, "Or", n, e, tf|tg)
			n, e = w.Xor(f, g)
			w.took(t, "Xor", n, e, tf^tg)
			h := w.nodes()[(int(tf)*7+int(tg)*3)%256]
			n, e = w.Ite(f, g, h)
			w.took(t, "Ite", n, e, tf&tg|w.tables[h]&^tf)
		}
	}
}

// P5.2, P5.5: each function of three variables, by each of what can be done with its variables.
func TestAllChanges(t *testing.T) {
	w := allOf(t)
	for f, tf := range w.tables {
		for i := range 3 {
			n, e := w.Restrict(f, i, false)
			w.took(t, "Restrict", n, e, tf.restrict(3, i, false))
			n, e = w.Restrict(f, i, true)
			w.took(t, "Restrict", n, e, tf.restrict(3, i, true))
		}
		for _, over := range lists(3, 4) {
			n, e := w.Exists(f, over...)
			w.took(t, "Exists", n, e, tf.exists(3, over))
			n, e = w.Forall(f, over...)
			w.took(t, "Forall", n, e, tf.forall(3, over))
		}
	}
}

// lists are all lists of so many variables, of at most so many.
func lists(vars, most int) [][]int {
	all := [][]int{nil}
	last := all
	for range most {
		var longer [][]int
		for _, l := range last {
			for i := range vars {
				longer = append(longer, append(slices.Clone(l), i))
			}
		}
		all, last = append(all, longer...), longer
	}
	return all
}

// P5.2: each function of three variables, with each other names for some of them; one that is renamed twice is refused.
func TestAllNames(t *testing.T) {
	w := allOf(t)
	all := lists(3, 3)
	for _, from := range all {
		twice := len(slices.Compact(slices.Sorted(slices.Values(from)))) < len(from)
		for _, to := range all {
			for f, tf := range w.tables {
				if twice || len(from) != len(to) {
					if n, e := w.Rename(f, from, to); n != 0 || e != api.ErrArg {
						t.Fatal(from, to, n, e)
					}
					break
				}
				n, e := w.Rename(f, from, to)
				if want := tf.rename(3, from, to); e != api.OK || w.tables[n] != want {
					t.Fatalf("Rename(%b, %v, %v): %b %v, not %b", tf, from, to, w.tables[n], e, want)
				}
			}
		}
	}
}

// The chapter's examples.
func TestExamples(t *testing.T) {
	w := newWorld(2, 10)
	x, _ := w.Var(0)
	y, _ := w.Var(1)
	both, _ := w.And(x, y)
	if w.Vars() != 2 || w.Used() != 3 {
		t.Error(w.Vars(), w.Used())
	}
	notX, _ := w.Not(x)
	notY, _ := w.Not(y)
	one, _ := w.And(x, notY)
	other, _ := w.And(y, notX)
	either, _ := w.Or(x, y)
	cases := []struct {
		what string
		call func() (int, api.Errno)
		want int
	}{
		{"Or(x, Not(x))", func() (int, api.Errno) { return w.Or(x, notX) }, 1},
		{"Xor(x, x)", func() (int, api.Errno) { return w.Xor(x, x) }, 0},
		{"Exists", func() (int, api.Errno) { return w.Exists(both, 0) }, y},
		{"Forall", func() (int, api.Errno) { return w.Forall(both, 0) }, 0},
		{"Rename about", func() (int, api.Errno) { return w.Rename(one, []int{0, 1}, []int{1, 0}) }, other},
		{"Rename to one", func() (int, api.Errno) { return w.Rename(both, []int{0}, []int{1}) }, y},
	}
	for _, c := range cases {
		if n, e := c.call(); n != c.want || e != api.OK {
			t.Errorf("%s: %d %v, not %d", c.what, n, e, c.want)
		}
	}
	if c, e := w.Count(either, []int{0, 1}); c != (api.Count{Lo: 3}) || e != api.OK {
		t.Error(c, e)
	}
	if l, e := w.Least(either, []int{0, 1}); !slices.Equal(l, []bool{false, true}) || e != api.OK {
		t.Error(l, e)
	}
}

// P5.1: what an arena may be.
func TestNew(t *testing.T) {
	cases := []struct {
		vars, most int
		want       api.Errno
	}{
		{0, 0, api.OK}, {bdd.MaxVars, api.MaxNodes, api.OK}, {2, 10, api.OK},
		{-1, 0, api.ErrArg}, {bdd.MaxVars + 1, 0, api.ErrArg}, {0, -1, api.ErrArg}, {0, api.MaxNodes + 1, api.ErrArg},
		{math.MinInt, 1, api.ErrArg}, {math.MaxInt, 1, api.ErrArg}, {1, math.MinInt, api.ErrArg}, {1, math.MaxInt, api.ErrArg},
	}
	for _, c := range cases {
		a, e := bdd.New(c.vars, c.most)
		if e != c.want || (a == nil) != (e != api.OK) {
			t.Fatalf("New(%d, %d): %v %v", c.vars, c.most, a, e)
		}
		if a != nil && (a.Vars() != c.vars || a.Used() != 0) {
			t.Error(c, a.Vars(), a.Used())
		}
	}
}
