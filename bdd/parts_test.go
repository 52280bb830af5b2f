package bdd_test

import (
	"slices"
	"testing"

	"waymark/api"
	"waymark/bdd"
)

// of is the node of a function of the last variables behind i, by its value for each of the values of all.
func of(t *testing.T, a *bdd.Arena, vars, i, values int, is func(values int) bool) int {
	if i == vars {
		if is(values) {
			return 1
		}
		return 0
	}
	low := of(t, a, vars, i+1, values, is)
	high := of(t, a, vars, i+1, put(vars, values, i, true), is)
	node := ok[int](t)
	return node(a.Ite(node(a.Var(i)), high, low))
}

// roughly is a function that has no rule to be seen; it is true once in so many values.
func roughly(vars, once int, seed uint64) []bool {
	next := numbers(seed)
	list := make([]bool, 1<<vars)
	for i := range list {
		list[i] = next(once) == 0
	}
	return list
}

// just makes an answer in an arena that has room for it by one node too few, then by none too few: it is refused, then is as wanted.
func just(t *testing.T, vars int, f []bool, call func(*bdd.Arena, int) (int, api.Errno), want func(values int) bool) {
	t.Helper()
	at := func(values int) bool { return f[values] }
	large, _ := bdd.New(vars, api.MaxNodes)
	made := ok[int](t)(call(large, of(t, large, vars, 0, 0, at)))
	used := large.Used()
	if n := of(t, large, vars, 0, 0, want); n != made || large.Used() != used {
		t.Fatal("the function by itself:", n, made, large.Used(), used)
	}
	for short := 1; short >= 0; short-- {
		a, _ := bdd.New(vars, large.Used()-short)
		g := of(t, a, vars, 0, 0, at)
		before := a.Used()
		n, e := call(a, g)
		if short == 1 {
			if n != 0 || e != api.ErrFull || a.Used() != before {
				t.Fatal("one node too few:", n, e, a.Used(), before)
			}
			continue
		}
		if e != api.OK || a.Used() != large.Used() {
			t.Fatal(n, e, a.Used(), large.Used())
		}
		for values := range 1 << vars {
			if is, _ := a.At(n, bools(vars, values)); is != want(values) {
				t.Fatalf("at %b: %t", values, is)
			}
		}
	}
}

// P5.2, P5.6: other names that put all in another order, with just the room for the answer, which is less than what is made on the way.
func TestRoomForNames(t *testing.T) {
	const vars = 14
	f := roughly(vars, 2, 1)
	orders := [][]int{
		row(vars-1, vars, -1),
		{6, 13, 5, 12, 4, 11, 3, 10, 2, 9, 1, 8, 0, 7},
		{13, 12, 11, 10, 9, 8, 7, 6, 5, 4, 3, 2, 0, 0},
		{13, 12, 11, 10, 9, 8, 0, 0, 0, 1, 2, 2, 1, 1},
	}
	for _, to := range orders {
		from := row(0, vars, 1)
		want := func(values int) bool {
			others := 0
			for i := range from {
				others = put(vars, others, from[i], value(vars, values, to[i]))
			}
			return f[others]
		}
		just(t, vars, f, func(a *bdd.Arena, g int) (int, api.Errno) { return a.Rename(g, from, to) }, want)
	}
}

// P5.2, P5.6: values for some variables among others, with just the room for the answer.
func TestRoomForSome(t *testing.T) {
	const vars = 14
	for _, over := range [][]int{row(0, 6, 1), row(0, 5, 2), {3, 1, 9, 4}} {
		f := roughly(vars, 100, uint64(over[0]))
		some := slices.Clone(f)
		for _, i := range over {
			for values := range some {
				some[values] = some[put(vars, values, i, false)] || some[put(vars, values, i, true)]
			}
		}
		just(t, vars, f, func(a *bdd.Arena, g int) (int, api.Errno) { return a.Exists(g, over...) }, func(values int) bool { return some[values] })
		for values := range f {
			f[values], some[values] = !f[values], !some[values]
		}
		just(t, vars, f, func(a *bdd.Arena, g int) (int, api.Errno) { return a.Forall(g, over...) }, func(values int) bool { return some[values] })
	}
}

// P5.6: answers of small functions that are larger than anything that could be made are refused all the same, and nothing is left of them.
func TestAnswersBeyondAll(t *testing.T) {
	const many, bits = 100, 7
	a, _ := bdd.New(bits+2*many, 1<<14)
	node := ok[int](t)
	// each is that each two neighbours are the same; all is that of the pairs that stand far from one another the one is the same whose number the first variables have.
	each, all := 1, 1
	for i := many - 1; i >= 0; i-- {
		x, y := node(a.Var(bits+2*i)), node(a.Var(bits+2*i+1))
		each = node(a.And(node(a.Not(node(a.Xor(x, y)))), each))
		far := node(a.Not(node(a.Xor(node(a.Var(bits+i)), node(a.Var(bits+many+i))))))
		here := 1
		for b := bits - 1; b >= 0; b-- {
			v := node(a.Var(b))
			if !value(bits, i, b) {
				v = node(a.Not(v))
			}
			here = node(a.And(v, here))
		}
		all = node(a.Ite(here, far, all))
	}
	used := a.Used()
	near, apart := row(bits, 2*many, 1), append(row(bits, many, 1), row(bits+many, many, 1)...)
	for i := range many {
		near[i], near[many+i] = bits+2*i, bits+2*i+1
	}
	none := node(a.Not(all))
	for what, call := range map[string]func() (int, api.Errno){
		"Rename": func() (int, api.Errno) { return a.Rename(each, near, apart) },
		"Forall": func() (int, api.Errno) { return a.Forall(all, row(0, bits, 1)...) },
		"Exists": func() (int, api.Errno) { return a.Exists(none, row(0, bits, 1)...) },
	} {
		if n, e := call(); n != 0 || e != api.ErrFull {
			t.Error(what, n, e)
		}
	}
	if size := node(a.Size(each)); size != 3*many || a.Used() < used {
		t.Error(size, a.Used(), used)
	}
}

// P5.2: a function that is made in parts, and has more ways to these than could be gone one by one.
func TestManyWaysToParts(t *testing.T) {
	const ahead, vars = 40, 14
	a, _ := bdd.New(ahead+vars, api.MaxNodes)
	node := ok[int](t)
	f := roughly(vars, 2, 3)
	odd := of(t, a, ahead+vars, ahead, 0, func(values int) bool { return f[values] })
	for i := ahead - 1; i >= 0; i-- {
		odd = node(a.Xor(node(a.Var(i)), odd))
	}
	n := node(a.Rename(odd, row(ahead, vars, 1), row(ahead+vars-1, vars, -1)))
	for values := range 1 << vars {
		all := append(make([]bool, ahead), bools(vars, values)...)
		slices.Reverse(all[ahead:])
		is, _ := a.At(n, all)
		all[7] = true
		not, _ := a.At(n, all)
		if is != f[values] || not == is {
			t.Fatal(values, is, not)
		}
	}
	if m := node(a.Rename(n, row(ahead, vars, 1), row(ahead+vars-1, vars, -1))); m != odd {
		t.Error(m, odd)
	}
}
