package bdd

import (
	"math"

	"waymark/api"
)

// part is a variable of an answer, and the variables of the asked function that get its value.
type part struct {
	variable int32
	sources  []int
}

// parted is the work of a call on whose way nodes are made that the answer does not need, maybe far more than it does. So it can't be refused for what it makes; and it can't go on till all is made either, for the answer itself may be larger than anything that has room.
// So it tries to make the answer in one go, and where that grows too large, out of what is left of it for the two values of its first variable. What is made of these is sure to stand in the answer: and of that there can't be more than there is room for.
type parted struct {
	*work
	way    func(*work) func(int32) int32
	budget int
	known  map[int32]int32
	sure   map[int32]struct{}
}

// change answers what a way makes of a function, in one go or in parts: those of the answer's variables, in their order.
func (a *Arena) change(f int, parts []part, way func(*work) func(int32) int32) (int, api.Errno) {
	p := &parted{
		work:   a.begin(math.MaxInt),
		way:    way,
		budget: 4*len(a.diagram(f)) + 1024,
		known:  map[int32]int32{},
		sure:   map[int32]struct{}{},
	}
	return p.answer(p.made(int32(f), parts))
}

// made is what the way makes of a function. One that has no part left needs no node, and so is made in one go.
func (p *parted) made(n int32, parts []part) int32 {
	if p.full {
		return 0
	}
	if m, is := p.known[n]; is {
		return m
	}
	m, is := p.tried(n)
	if !is {
		m = p.joined(n, parts)
	}
	p.known[n] = m
	p.ensure(m)
	return m
}

// joined is what the way makes of a function, out of what it makes of what is left for the values of the first part that matters.
func (p *parted) joined(n int32, parts []part) int32 {
	first, rest := parts[0], parts[1:]
	low, high := p.with(n, first.sources, false), p.with(n, first.sources, true)
	if low == n && high == n {
		return p.joined(n, rest)
	}
	return p.node(first.variable, p.made(low, rest), p.made(high, rest))
}

// tried is what the way makes of a function in one go, if that stays small.
func (p *parted) tried(n int32) (int32, bool) {
	before := len(p.nodes)
	p.room = before + p.budget
	m := p.way(p.work)(n)
	large := p.full
	p.room, p.full = math.MaxInt, false
	if large {
		p.drop(before)
		return 0, false
	}
	return m, true
}

// with is a function with a value for some variables.
func (p *parted) with(n int32, variables []int, value bool) int32 {
	for _, i := range variables {
		n = p.given(n, i, value)
	}
	return n
}

// ensure counts the nodes of a diagram as sure: more than there is room for, and all is refused.
func (p *parted) ensure(n int32) {
	if _, is := p.sure[n]; is || n < p.first() {
		return
	}
	p.sure[n] = struct{}{}
	p.full = p.full || len(p.sure) > p.arena.room()
	at := p.at(n)
	p.ensure(at.low)
	p.ensure(at.high)
}
