package bdd

import (
	"maps"
	"math/bits"
	"slices"

	"waymark/api"
)

// maxCounted is over how many variables values are counted at most: their number stays below 2^128.
const maxCounted = 127

// At is f's value.
func (a *Arena) At(f int, values []bool) (bool, api.Errno) {
	if e := a.check(f); e != api.OK {
		return false, e
	}
	if len(values) != a.vars {
		return false, api.ErrArg
	}
	n := int32(f)
	for n >= 2 {
		n = a.at(n).side(values[a.at(n).variable])
	}
	return n == 1, api.OK
}

// side is what is left of a function for a value of its first variable.
func (n node) side(value bool) int32 {
	if value {
		return n.high
	}
	return n.low
}

// Size is how many inner nodes f's diagram has.
func (a *Arena) Size(f int) (int, api.Errno) {
	if e := a.check(f); e != api.OK {
		return 0, e
	}
	return len(a.diagram(f)), api.OK
}

// Support are the variables on which f hangs.
func (a *Arena) Support(f int) ([]int, api.Errno) {
	if e := a.check(f); e != api.OK {
		return nil, e
	}
	variables := map[int]struct{}{}
	for n := range a.diagram(f) {
		variables[int(a.at(n).variable)] = struct{}{}
	}
	return slices.Sorted(maps.Keys(variables)), api.OK
}

// diagram are the inner nodes of f's diagram.
func (a *Arena) diagram(f int) map[int32]struct{} {
	found := map[int32]struct{}{}
	var walk func(int32)
	walk = func(n int32) {
		if _, is := found[n]; is || n < 2 {
			return
		}
		found[n] = struct{}{}
		walk(a.at(n).low)
		walk(a.at(n).high)
	}
	walk(int32(f))
	return found
}

// Count is for how many values f is true.
func (a *Arena) Count(f int, over []int) (api.Count, api.Errno) {
	if e := a.checkList(f, over); e != api.OK {
		return api.Count{}, e
	}
	if len(over) > maxCounted {
		return api.Count{}, api.ErrArg
	}
	places := a.places(over)
	known := map[int32]api.Count{0: {}, 1: {Lo: 1}}
	var below func(n int32, from int) api.Count
	below = func(n int32, from int) api.Count {
		at := a.at(n)
		place := places[at.variable]
		if _, is := known[n]; !is {
			known[n] = sum(below(at.low, place+1), below(at.high, place+1))
		}
		return doubled(known[n], place-from)
	}
	return below(int32(f), 0), api.OK
}

// places tells for each variable of a list where it stands there; behind all variables stands the end of the list.
func (a *Arena) places(over []int) []int {
	places := make([]int, a.vars+1)
	for i, v := range over {
		places[v] = i
	}
	places[a.vars] = len(over)
	return places
}

// sum is both counts together.
func sum(c, d api.Count) api.Count {
	lo, carry := bits.Add64(c.Lo, d.Lo, 0)
	hi, _ := bits.Add64(c.Hi, d.Hi, carry)
	return api.Count{Hi: hi, Lo: lo}
}

// doubled is a count, doubled so many times. What is shifted by a number below 0, as an unsigned one, is shifted out.
func doubled(c api.Count, times int) api.Count {
	return api.Count{
		Hi: c.Hi<<uint(times) | c.Lo>>uint(64-times) | c.Lo<<uint(times-64),
		Lo: c.Lo << uint(times),
	}
}

// Least are the least values for which f is true.
func (a *Arena) Least(f int, over []int) ([]bool, api.Errno) {
	if e := a.checkList(f, over); e != api.OK {
		return nil, e
	}
	if f == 0 {
		return nil, api.ErrNone
	}
	values := make([]bool, len(over))
	n := int32(f)
	for i, v := range over {
		at := a.at(n)
		if at.variable != int32(v) {
			continue
		}
		// What is not always false is true for some values: so the low side will do if it is any other.
		values[i] = at.low == 0
		n = at.side(values[i])
	}
	return values, api.OK
}

// checkList tells whether a list of variables rises, and has all on which f hangs.
func (a *Arena) checkList(f int, over []int) api.Errno {
	if e := a.check(f); e != api.OK {
		return e
	}
	listed := map[int]struct{}{}
	for i, v := range over {
		if !a.has(v) || i > 0 && v <= over[i-1] {
			return api.ErrArg
		}
		listed[v] = struct{}{}
	}
	support, _ := a.Support(f)
	for _, v := range support {
		if _, is := listed[v]; !is {
			return api.ErrArg
		}
	}
	return api.OK
}
