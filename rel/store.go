package rel

import (
	"waymark/api"
	"waymark/bdd"
)

// node is an inner node that counts: the first variable on which its function hangs, and what is left of the function for that variable's two values.
type node struct {
	variable, low, high int
	// What number it has in the arena.
	inner int
	// Whether its function hangs on variables of even numbers alone.
	set bool
	// Whether a call has answered it: one that only stands in the diagrams of others is held, but is no number that a caller may hand in.
	told bool
}

// store is what a space holds: the inner nodes of the diagrams of all that calls have answered, by numbers from 2 on, those below ahead of those above.
// All is made in an arena. What was only made on the way to an answer, or to one that was refused, stands there too, but does not count: so a node has a number of its own, and the arena can be made anew without what does not count.
type store struct {
	most    int
	nodes   []node
	arena   *bdd.Arena
	numbers map[int]int
}

// newStore is a store without nodes, which may hold so many.
func newStore(most int) (*store, api.Errno) {
	// Far more room than all answers may take: a way of which the answer has room should not be refused. But not always the greatest, so that answers that are far too large are refused soon.
	arena, e := bdd.New(variables, min(16*most+65536, api.MaxNodes))
	return &store{most: most, arena: arena, numbers: map[int]int{}}, e
}

// has tells whether a number is a node that a call has answered.
func (s *store) has(n int) bool {
	return n == 0 || n == 1 || n >= 2 && n-2 < len(s.nodes) && s.nodes[n-2].told
}

// isSet tells whether a node's function hangs on variables of even numbers alone.
func (s *store) isSet(n int) bool { return n < 2 || s.nodes[n-2].set }

// inner is a node's number in the arena.
func (s *store) inner(n int) int {
	if n < 2 {
		return n
	}
	return s.nodes[n-2].inner
}

// answer takes in what is made in a way, and answers it.
func (s *store) answer(way func(*maker) int) (int, api.Errno) {
	inner, e := s.try(way)
	if e == api.ErrFull && s.renew() {
		inner, e = s.try(way)
	}
	if e != api.OK {
		return 0, e
	}
	return s.take(inner)
}

// try makes something in a way.
func (s *store) try(way func(*maker) int) (int, api.Errno) {
	m := &maker{store: s}
	inner := way(m)
	return inner, m.e
}

// renew makes the arena anew, with nothing in it but what counts; false, if it could not be smaller, but for single variables.
func (s *store) renew() bool {
	if s.arena.Used() <= len(s.nodes)+variables {
		return false
	}
	anew, e := newStore(s.most)
	m := &maker{store: anew, e: e}
	for _, n := range s.nodes {
		n.inner = m.choice(n.variable, anew.inner(n.low), anew.inner(n.high))
		anew.put(n)
	}
	if m.e == api.OK {
		*s = *anew
	}
	return m.e == api.OK
}

// take takes in the diagram of a node of the arena, if there is room for it, and tells the node's number.
func (s *store) take(inner int) (int, api.Errno) {
	before := len(s.nodes)
	full := false
	var walk func(inner, from int) int
	walk = func(inner, from int) int {
		if inner < 2 || full {
			return inner
		}
		if n, is := s.numbers[inner]; is {
			return n
		}
		variable, low, high := s.split(inner, from)
		low, high = walk(low, variable+1), walk(high, variable+1)
		if full = full || len(s.nodes) >= s.most; full {
			return 0
		}
		return s.put(node{variable: variable, low: low, high: high, inner: inner})
	}
	n := walk(inner, 0)
	if full {
		s.drop(before)
		return 0, api.ErrFull
	}
	if n >= 2 {
		s.nodes[n-2].told = true
	}
	return n, api.OK
}

// split tells the first variable on which a node of the arena hangs, one from a number on, and what is left for its two values: nodes that the arena holds already, so that it refuses none.
func (s *store) split(inner, from int) (variable, low, high int) {
	variable = from
	low, _ = s.arena.Restrict(inner, variable, false)
	for low == inner {
		variable++
		low, _ = s.arena.Restrict(inner, variable, false)
	}
	high, _ = s.arena.Restrict(inner, variable, true)
	return variable, low, high
}

// put takes in a node whose two sides are held.
func (s *store) put(n node) int {
	n.set = n.variable%2 == 0 && s.isSet(n.low) && s.isSet(n.high)
	s.nodes = append(s.nodes, n)
	number := len(s.nodes) + 1
	s.numbers[n.inner] = number
	return number
}

// drop takes back the nodes that were taken in since there were so many.
func (s *store) drop(many int) {
	for _, n := range s.nodes[many:] {
		delete(s.numbers, n.inner)
	}
	s.nodes = s.nodes[:many]
}
