package bdd_test

import (
	"maps"
	"math/bits"
	"slices"

	"waymark/bdd"
)

// table is a function of few variables as the document's words have it: a bit for each of the values, the bit 0 where all are false. The first variable is the highest bit of the values' number.
type table uint32

// value is a variable's value among the values of that number.
func value(vars, values, i int) bool { return values>>(vars-1-i)&1 != 0 }

// put is the number of the values with another value for a variable.
func put(vars, values, i int, v bool) int {
	bit := 1 << (vars - 1 - i)
	if v {
		return values | bit
	}
	return values &^ bit
}

// made is the function that is so for all values.
func made(vars int, is func(values int) bool) table {
	var f table
	for values := range 1 << vars {
		if is(values) {
			f |= 1 << values
		}
	}
	return f
}

func (f table) at(values int) bool { return f>>values&1 != 0 }

func (f table) restrict(vars, i int, v bool) table {
	return made(vars, func(values int) bool { return f.at(put(vars, values, i, v)) })
}

func (f table) exists(vars int, over []int) table {
	for _, i := range over {
		f = f.restrict(vars, i, false) | f.restrict(vars, i, true)
	}
	return f
}

func (f table) forall(vars int, over []int) table {
	for _, i := range over {
		f = f.restrict(vars, i, false) & f.restrict(vars, i, true)
	}
	return f
}

func (f table) rename(vars int, from, to []int) table {
	return made(vars, func(values int) bool {
		others := values
		for i := range from {
			others = put(vars, others, from[i], value(vars, values, to[i]))
		}
		return f.at(others)
	})
}

func (f table) support(vars int) []int {
	var list []int
	for i := range vars {
		if f.restrict(vars, i, false) != f.restrict(vars, i, true) {
			list = append(list, i)
		}
	}
	return list
}

// diagram are the functions that come of one when some first variables are given values, but for the two that never change.
func (f table) diagram(vars int) map[table]int {
	last := []table{f}
	all := last
	for i := range vars {
		var longer []table
		for _, g := range last {
			longer = append(longer, g.restrict(vars, i, false), g.restrict(vars, i, true))
		}
		slices.Sort(longer)
		last = slices.Compact(longer)
		all = append(all, last...)
	}
	inner := map[table]int{}
	for _, g := range all {
		if len(g.support(vars)) > 0 {
			inner[g] = 1
		}
	}
	return inner
}

// spread are the values, of all variables, that a list has by its own values' number; the others are false.
func spread(vars, number int, over []int) int {
	values := 0
	for i, v := range over {
		values = put(vars, values, v, value(len(over), number, i))
	}
	return values
}

// counted tells for how many of a list's values it is true, and which are the least: -1, if there are none.
func (f table) counted(vars int, over []int) (count uint64, least int) {
	least = -1
	for number := range 1 << len(over) {
		if f.at(spread(vars, number, over)) {
			count++
			if least < 0 {
				least = number
			}
		}
	}
	return count, least
}

// world is an arena beside the functions that its nodes stand for, the nodes of the functions, and all that it holds.
type world struct {
	*bdd.Arena
	vars, most int
	tables     map[int]table
	numbers    map[table]int
	held       map[table]int
	diagrams   map[table]map[table]int
}

func newWorld(vars, most int) *world {
	a, _ := bdd.New(vars, most)
	all := made(vars, func(int) bool { return true })
	return &world{a, vars, most, map[int]table{0: 0, 1: all}, map[table]int{0: 0, all: 1}, map[table]int{}, map[table]map[table]int{}}
}

// nodes are the numbers that have been answered.
func (w *world) nodes() []int { return slices.Sorted(maps.Keys(w.tables)) }

// fresh are the functions that the arena would have to take in for one more.
func (w *world) fresh(f table) []table {
	if w.diagrams[f] == nil {
		w.diagrams[f] = f.diagram(w.vars)
	}
	var list []table
	for g := range w.diagrams[f] {
		if w.held[g] == 0 {
			list = append(list, g)
		}
	}
	return list
}

// bools are a list's values by their number.
func bools(size, number int) []bool {
	list := make([]bool, size)
	for i := range list {
		list[i] = value(size, number, i)
	}
	return list
}

// subset are those of the first variables whose bit is set.
func subset(set int) []int {
	var list []int
	for i := range bits.Len(uint(set)) {
		if set>>i&1 != 0 {
			list = append(list, i)
		}
	}
	return list
}
