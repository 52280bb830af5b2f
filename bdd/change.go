package bdd

import (
	"slices"

	"waymark/api"
)

// Restrict is f with a value for a variable.
func (a *Arena) Restrict(f, i int, value bool) (int, api.Errno) {
	if e := a.check(f); e != api.OK {
		return 0, e
	}
	if !a.has(i) {
		return 0, api.ErrArg
	}
	// What begins no sooner than with that variable has the answer in its diagram: nothing is to be made.
	switch n := a.at(int32(f)); {
	case n.variable > int32(i):
		return f, api.OK
	case n.variable == int32(i):
		return a.tell(n.side(value)), api.OK
	}
	w := a.begin(a.room())
	return w.answer(w.given(int32(f), i, value))
}

// Exists is true where f is for some values.
func (a *Arena) Exists(f int, over ...int) (int, api.Errno) {
	return a.quantify(f, over, func(low, high int32) question { return question{low, 1, high} })
}

// Forall is true where f is for all values.
func (a *Arena) Forall(f int, over ...int) (int, api.Errno) {
	return a.quantify(f, over, func(low, high int32) question { return question{low, high, 0} })
}

// quantify is f without some variables: in the place of each node of one of these stands the answer to what is asked of its two sides.
func (a *Arena) quantify(f int, over []int, asked func(low, high int32) question) (int, api.Errno) {
	if e := a.check(f); e != api.OK {
		return 0, e
	}
	if !a.has(over...) {
		return 0, api.ErrArg
	}
	if len(over) == 0 {
		return f, api.OK
	}
	var parts []part
	gone := make([]bool, a.vars)
	for _, i := range over {
		gone[i] = true
	}
	for i := range a.vars {
		if !gone[i] {
			parts = append(parts, part{int32(i), []int{i}})
		}
	}
	return a.change(f, parts, func(w *work) func(int32) int32 {
		choose := w.apply(choice)
		return w.through(slices.Max(over), func(variable, low, high int32) int32 {
			if gone[variable] {
				return choose(asked(low, high))
			}
			return w.node(variable, low, high)
		})
	})
}

// Rename is f with other variables.
func (a *Arena) Rename(f int, from, to []int) (int, api.Errno) {
	if e := a.check(f); e != api.OK {
		return 0, e
	}
	if len(from) != len(to) || !a.has(from...) || !a.has(to...) {
		return 0, api.ErrArg
	}
	if len(from) == 0 {
		return f, api.OK
	}
	names, once := a.renamed(from, to)
	if !once {
		return 0, api.ErrArg
	}
	parts := make([]part, a.vars)
	for v, name := range names {
		parts[name].variable = name
		parts[name].sources = append(parts[name].sources, v)
	}
	return a.change(f, parts, func(w *work) func(int32) int32 {
		choose := w.chooser()
		return w.through(slices.Max(from), func(variable, low, high int32) int32 {
			return choose(names[variable], low, high)
		})
	})
}

// renamed tells what stands in the place of each variable, and whether each one of from stands there once.
func (a *Arena) renamed(from, to []int) ([]int32, bool) {
	names := make([]int32, a.vars)
	for i := range names {
		names[i] = int32(i)
	}
	seen := make([]bool, a.vars)
	for i, v := range from {
		if seen[v] {
			return nil, false
		}
		seen[v] = true
		names[v] = int32(to[i])
	}
	return names, true
}

// chooser is what makes the function that is one where a variable is false, and another where it is true, wherever in the order that variable stands.
func (w *work) chooser() func(variable, low, high int32) int32 {
	choose := w.apply(choice)
	return func(variable, low, high int32) int32 {
		if variable < min(w.at(low).variable, w.at(high).variable) {
			return w.node(variable, low, high)
		}
		return choose(question{w.node(variable, 0, 1), high, low})
	}
}

// given is a function with a value for a variable.
func (w *work) given(n int32, i int, value bool) int32 {
	return w.through(i, func(variable, low, high int32) int32 {
		if variable == int32(i) {
			return node{variable, low, high}.side(value)
		}
		return w.node(variable, low, high)
	})(n)
}

// through is what goes through a diagram from below, each node once: join tells what comes in the place of a node, out of its variable and of what came in the place of its two sides. What hangs on variables behind the last one alone stays as it is.
func (w *work) through(last int, join func(variable, low, high int32) int32) func(int32) int32 {
	known := map[int32]int32{}
	var walk func(int32) int32
	walk = func(n int32) int32 {
		at := w.at(n)
		if at.variable > int32(last) {
			return n
		}
		if m, is := known[n]; is {
			return m
		}
		m := join(at.variable, walk(at.low), walk(at.high))
		known[n] = m
		return m
	}
	return walk
}
