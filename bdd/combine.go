package bdd

import "waymark/api"

// Not is true where f is false.
func (a *Arena) Not(f int) (int, api.Errno) {
	if e := a.check(f); e != api.OK {
		return 0, e
	}
	return a.combine(unlike, 1, f, 0)
}

// And is true where both are.
func (a *Arena) And(f, g int) (int, api.Errno) {
	if e := a.check(f, g); e != api.OK {
		return 0, e
	}
	return a.combine(choice, f, g, 0)
}

// Or is true where one is.
func (a *Arena) Or(f, g int) (int, api.Errno) {
	if e := a.check(f, g); e != api.OK {
		return 0, e
	}
	return a.combine(choice, f, 1, g)
}

// Xor is true where just one is.
func (a *Arena) Xor(f, g int) (int, api.Errno) {
	if e := a.check(f, g); e != api.OK {
		return 0, e
	}
	return a.combine(unlike, f, g, 0)
}

// Ite is g where f is true, else h.
func (a *Arena) Ite(f, g, h int) (int, api.Errno) {
	if e := a.check(f, g, h); e != api.OK {
		return 0, e
	}
	return a.combine(choice, f, g, h)
}

// question is what is asked of three nodes.
type question [3]int32

// open is what a rule answers where it has no answer yet.
const open int32 = -1

// combine answers a question of nodes that are the arena's. Whatever is made on the way is left of the answer when the first variables have values: so no more of it can be needed than there is room for.
func (a *Arena) combine(rule func(question) (question, int32), f, g, h int) (int, api.Errno) {
	w := a.begin(a.room())
	return w.answer(w.apply(rule)(question{int32(f), int32(g), int32(h)}))
}

// apply is what answers questions by a rule: where the rule has no answer, by the questions of what is left for the two values of the first variable.
func (w *work) apply(rule func(question) (question, int32)) func(question) int32 {
	known := map[question]int32{}
	var answer func(question) int32
	answer = func(q question) int32 {
		q, n := rule(q)
		if n != open {
			return n
		}
		if w.full {
			return 0
		}
		if n, is := known[q]; is {
			return n
		}
		variable, low, high := w.split(q)
		n = w.node(variable, answer(low), answer(high))
		known[q] = n
		return n
	}
	return answer
}

// split tells the first variable on which one of a question's nodes hangs, and what is left of the question for its two values.
func (w *work) split(q question) (variable int32, low, high question) {
	nodes := [3]node{w.at(q[0]), w.at(q[1]), w.at(q[2])}
	variable = min(nodes[0].variable, nodes[1].variable, nodes[2].variable)
	low, high = q, q
	for i, n := range nodes {
		if n.variable == variable {
			low[i], high[i] = n.low, n.high
		}
	}
	return variable, low, high
}

// choice is the rule of the second node where the first is true, else the third. Questions with the same answer are made one, where that is plain.
func choice(q question) (question, int32) {
	if q[1] == q[0] {
		q[1] = 1
	}
	if q[2] == q[0] {
		q[2] = 0
	}
	switch {
	case q[0] == 1 || q[1] == q[2]:
		return q, q[1]
	case q[0] == 0:
		return q, q[2]
	case q[1] == 1 && q[2] == 0:
		return q, q[0]
	case q[2] == 0 && q[1] < q[0]:
		q[0], q[1] = q[1], q[0]
	case q[1] == 1 && q[2] < q[0]:
		q[0], q[2] = q[2], q[0]
	}
	return q, open
}

// unlike is the rule of where the first two nodes are unlike.
func unlike(q question) (question, int32) {
	if q[1] < q[0] {
		q[0], q[1] = q[1], q[0]
	}
	switch {
	case q[0] == q[1]:
		return q, 0
	case q[0] == 0:
		return q, q[1]
	}
	return q, open
}
