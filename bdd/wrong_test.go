package bdd_test

import (
	"math"
	"slices"
	"testing"

	"waymark/api"
	"waymark/bdd"
)

// calls are all calls that are handed one node, by their names; good tells whether the other arguments are.
func calls(a *bdd.Arena) map[string]func(f int) (any, any, api.Errno) {
	node := func(n int, e api.Errno) (any, any, api.Errno) { return n, 0, e }
	values := make([]bool, a.Vars())
	all := make([]int, a.Vars())
	for i := range all {
		all[i] = i
	}
	return map[string]func(f int) (any, any, api.Errno){
		"Not":      func(f int) (any, any, api.Errno) { return node(a.Not(f)) },
		"And":      func(f int) (any, any, api.Errno) { return node(a.And(f, 0)) },
		"And 2":    func(f int) (any, any, api.Errno) { return node(a.And(0, f)) },
		"Or":       func(f int) (any, any, api.Errno) { return node(a.Or(f, 1)) },
		"Or 2":     func(f int) (any, any, api.Errno) { return node(a.Or(1, f)) },
		"Xor":      func(f int) (any, any, api.Errno) { return node(a.Xor(f, 1)) },
		"Xor 2":    func(f int) (any, any, api.Errno) { return node(a.Xor(1, f)) },
		"Ite":      func(f int) (any, any, api.Errno) { return node(a.Ite(f, 1, 1)) },
		"Ite 2":    func(f int) (any, any, api.Errno) { return node(a.Ite(0, f, 1)) },
		"Ite 3":    func(f int) (any, any, api.Errno) { return node(a.Ite(1, 1, f)) },
		"Restrict": func(f int) (any, any, api.Errno) { return node(a.Restrict(f, 0, true)) },
		"Exists":   func(f int) (any, any, api.Errno) { return node(a.Exists(f)) },
		"Exists 0": func(f int) (any, any, api.Errno) { return node(a.Exists(f, 0)) },
		"Forall":   func(f int) (any, any, api.Errno) { return node(a.Forall(f)) },
		"Forall 0": func(f int) (any, any, api.Errno) { return node(a.Forall(f, 0)) },
		"Rename":   func(f int) (any, any, api.Errno) { return node(a.Rename(f, nil, nil)) },
		"Rename 0": func(f int) (any, any, api.Errno) { return node(a.Rename(f, []int{0}, []int{1})) },
		"At":       func(f int) (any, any, api.Errno) { is, e := a.At(f, values); return is, false, e },
		"Size":     func(f int) (any, any, api.Errno) { return node(a.Size(f)) },
		"Support":  func(f int) (any, any, api.Errno) { l, e := a.Support(f); return len(l), 0, e },
		"Count": func(f int) (any, any, api.Errno) {
			c, e := a.Count(f, all)
			return c, api.Count{}, e
		},
		"Least": func(f int) (any, any, api.Errno) { l, e := a.Least(f, all); return len(l), 0, e },
	}
}

// P5.1: only what a call has answered is a node, also where the arena holds more for the diagrams of others.
func TestWhatIsNoNode(t *testing.T) {
	a, _ := bdd.New(2, 20)
	x, _ := a.Var(0)
	y, _ := a.Var(1)
	f, _ := a.Xor(x, y)
	if a.Used() != 4 {
		t.Fatal(a.Used())
	}
	right := []int{0, 1, x, y, f}
	wrong := []int{math.MinInt, -1 << 32, -2, -1, 1 << 31, 1 << 32, 1<<32 + 1, 1<<32 + x, math.MaxInt}
	for n := range 30 {
		if !slices.Contains(right, n) {
			wrong = append(wrong, n)
		}
	}
	for name, call := range calls(a) {
		for _, n := range wrong {
			if got, zero, e := call(n); e != api.ErrArg || got != zero {
				t.Errorf("%s of %d: %v %v", name, n, got, e)
			}
		}
	}
	if a.Used() != 4 {
		t.Error("the refused calls have made nodes:", a.Used())
	}
	notY, e := a.Not(y)
	if e != api.OK || a.Used() != 4 {
		t.Error("what was held already:", notY, e, a.Used())
	}
	for name, call := range calls(a) {
		for _, n := range append(right, notY) {
			if _, _, e := call(n); e != api.OK && !(name == "Least" && n == 0 && e == api.ErrNone) {
				t.Errorf("%s of %d: %v", name, n, e)
			}
		}
	}
}

// Errors: variables that there are not, and lists that may not be.
func TestWhatIsNoVariable(t *testing.T) {
	w := newWorld(3, 20)
	x, _ := w.Var(0)
	y, _ := w.Var(1)
	f, _ := w.And(x, y)
	used := w.Used()
	for _, i := range []int{math.MinInt, -1, 3, 256, 1 << 32, 1<<32 + 1, math.MaxInt} {
		for _, g := range []int{0, 1, f} {
			for what, call := range map[string]func() (int, api.Errno){
				"Var":      func() (int, api.Errno) { return w.Var(i) },
				"Restrict": func() (int, api.Errno) { return w.Restrict(g, i, true) },
				"Exists":   func() (int, api.Errno) { return w.Exists(g, i) },
				"Exists 2": func() (int, api.Errno) { return w.Exists(g, 0, i) },
				"Forall":   func() (int, api.Errno) { return w.Forall(g, i) },
				"Forall 2": func() (int, api.Errno) { return w.Forall(g, i, 1) },
				"from":     func() (int, api.Errno) { return w.Rename(g, []int{i}, []int{0}) },
				"from 2":   func() (int, api.Errno) { return w.Rename(g, []int{2, i}, []int{0, 0}) },
				"to":       func() (int, api.Errno) { return w.Rename(g, []int{0}, []int{i}) },
				"to 2":     func() (int, api.Errno) { return w.Rename(g, []int{0, 1}, []int{1, i}) },
			} {
				if n, e := call(); n != 0 || e != api.ErrArg {
					t.Errorf("%s of %d, %d: %d %v", what, g, i, n, e)
				}
			}
		}
	}
	for _, c := range []struct{ from, to []int }{
		{[]int{0}, nil}, {nil, []int{0}}, {[]int{0, 1}, []int{0}}, {[]int{0, 0}, []int{1, 1}}, {[]int{2, 1, 2}, []int{2, 1, 2}},
	} {
		if n, e := w.Rename(f, c.from, c.to); n != 0 || e != api.ErrArg {
			t.Error(c, n, e)
		}
	}
	if w.Used() != used {
		t.Error(w.Used())
	}
}

// Errors: lists of values and of variables to count over.
func TestWhatIsNoList(t *testing.T) {
	w := newWorld(3, 20)
	x, _ := w.Var(0)
	y, _ := w.Var(1)
	f, _ := w.And(x, y)
	for size := range 6 {
		if is, e := w.At(1, make([]bool, size)); (e == api.OK) != (size == 3) || (e == api.ErrArg) != (size != 3) || is != (size == 3) {
			t.Error("At", size, is, e)
		}
	}
	wrong := [][]int{{1, 0}, {0, 0, 1}, {0, 1, 1}, {0, 1, 3}, {-1, 0, 1}, {0, 1, math.MaxInt}, {math.MinInt, 0, 1}, {0, 1, 1 << 32}, {0}, {1}, {2}, {0, 2}, {1, 2}, {}, nil}
	for _, over := range wrong {
		if c, e := w.Count(f, over); c != (api.Count{}) || e != api.ErrArg {
			t.Error("Count", over, c, e)
		}
		if l, e := w.Least(f, over); l != nil || e != api.ErrArg {
			t.Error("Least", over, l, e)
		}
	}
	// What may not be a list is told ahead of that there are no values.
	for _, over := range wrong[:8] {
		if l, e := w.Least(0, over); l != nil || e != api.ErrArg {
			t.Error("Least of 0", over, l, e)
		}
	}
	for _, over := range [][]int{nil, {}, {1}, {0, 1, 2}} {
		if l, e := w.Least(0, over); l != nil || e != api.ErrNone {
			t.Error("Least of 0", over, l, e)
		}
	}
}

// R1, R4, R5: what is asked of no arena.
func TestNil(t *testing.T) {
	var none *bdd.Arena
	if none.Vars() != 0 || none.Used() != 0 {
		t.Error(none.Vars(), none.Used())
	}
	if n, e := none.Var(-1); n != 0 || e != api.ErrNil {
		t.Error(n, e)
	}
	for name, call := range calls(none) {
		for _, n := range []int{math.MinInt, -1, 0, 1, 2, math.MaxInt} {
			if got, zero, e := call(n); got != zero || e != api.ErrNil {
				t.Errorf("%s of %d: %v %v", name, n, got, e)
			}
		}
	}
	for _, e := range []api.Errno{
		second(none.Restrict(1, -1, true)), second(none.Exists(1, -1)), second(none.Forall(1, 9)), second(none.Rename(1, []int{0}, nil)),
		second(none.At(1, make([]bool, 300))), second(none.Count(0, []int{1, 0})), second(none.Least(0, []int{1, 0})),
	} {
		if e != api.ErrNil {
			t.Error(e)
		}
	}
}

// second is a call's error.
func second[T any](_ T, e api.Errno) api.Errno { return e }

// R1: an arena that New did not make, or that was copied, never panics.
func TestOthersArenas(t *testing.T) {
	a, _ := bdd.New(3, 60)
	for i := range 3 {
		a.Var(i)
	}
	copied := *a
	for _, b := range []*bdd.Arena{{}, new(bdd.Arena), &copied} {
		for n := range 20 {
			for _, x := range []*bdd.Arena{a, b} {
				f, _ := x.Xor(n, n/2)
				x.Not(f)
				x.Var(n)
				x.Rename(f, []int{0, 1, 2}, []int{2, 1, 0})
				for _, call := range calls(x) {
					call(n)
				}
			}
		}
	}
}
