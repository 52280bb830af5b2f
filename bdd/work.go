package bdd

import "waymark/api"

// work is what one call makes. Its nodes are numbered on from the arena's, but are none of these before the call's answer is known: what is only made on the way does not count, and what is refused leaves nothing behind.
type work struct {
	arena   *Arena
	nodes   []node
	numbers map[node]int32
	// How many nodes may be made, and whether one more was wanted.
	room int
	full bool
}

// begin is the work of a call that may make so many nodes.
func (a *Arena) begin(room int) *work {
	return &work{arena: a, numbers: map[node]int32{}, room: room}
}

// first is the number of the first node that is made.
func (w *work) first() int32 { return int32(2 + len(w.arena.nodes)) }

// at tells what a node is.
func (w *work) at(n int32) node {
	if first := w.first(); n >= first {
		return w.nodes[n-first]
	}
	return w.arena.at(n)
}

// node is the node of a variable and of what is left for its two values: the one side, if they are the same; one that is there; or a new one.
func (w *work) node(variable, low, high int32) int32 {
	if low == high {
		return low
	}
	made := node{variable, low, high}
	if n, is := w.find(made); is {
		return n
	}
	if len(w.nodes) >= w.room {
		w.full = true
		return 0
	}
	n := w.first() + int32(len(w.nodes))
	w.nodes = append(w.nodes, made)
	w.numbers[made] = n
	return n
}

// find looks for a node among the arena's and those that are made. Over a made one stand no others than made ones.
func (w *work) find(wanted node) (int32, bool) {
	first := w.first()
	if wanted.low < first && wanted.high < first {
		// A copy of an arena shares this map, but not the nodes that were put in since.
		if n, is := w.arena.numbers[wanted]; is && n < first {
			return n, true
		}
	}
	n, is := w.numbers[wanted]
	return n, is
}

// drop takes back the nodes that were made since there were so many.
func (w *work) drop(many int) {
	for _, made := range w.nodes[many:] {
		delete(w.numbers, made)
	}
	w.nodes = w.nodes[:many]
}

// answer takes into the arena what stands in the diagram of a node, if there is room for that, and answers the node.
func (w *work) answer(n int32) (int, api.Errno) {
	a := w.arena
	needed, count := w.needed(n)
	if w.full || count > a.room() {
		return 0, api.ErrFull
	}
	first := w.first()
	numbers := make([]int32, len(w.nodes))
	settled := func(n int32) int32 {
		if n >= first {
			return numbers[n-first]
		}
		return n
	}
	for i, made := range w.nodes {
		if needed[i] {
			numbers[i] = a.put(node{made.variable, settled(made.low), settled(made.high)})
		}
	}
	return a.tell(settled(n)), api.OK
}

// needed tells which of the made nodes stand in the diagram of one, and how many. A node is made behind those below it: so one pass from the last to the first comes to all.
func (w *work) needed(n int32) ([]bool, int) {
	first := w.first()
	marks := make([]bool, len(w.nodes))
	mark := func(n int32) {
		if n >= first {
			marks[n-first] = true
		}
	}
	mark(n)
	count := 0
	for i := len(w.nodes) - 1; i >= 0; i-- {
		if marks[i] {
			count++
			mark(w.nodes[i].low)
			mark(w.nodes[i].high)
		}
	}
	return marks, count
}
