package tree

import (
	"slices"

	"waymark/api"
	"waymark/lex"
)

// none is the kind of the next token where none is left.
const none uint8 = 0

// reader takes tokens off, one behind the other. Once it has refused, none is left, and the first refusal stays.
type reader struct {
	left []lex.Token
	pos  api.Pos
	e    api.Errno
}

func (r *reader) refuse(pos api.Pos, e api.Errno) {
	r.left = nil
	if r.e == api.OK {
		r.pos, r.e = pos, e
	}
}

// next is the kind of the next token.
func (r *reader) next() uint8 {
	if len(r.left) == 0 {
		return none
	}
	return r.left[0].Kind
}

// take takes a token off; one must be left.
func (r *reader) take() lex.Token {
	t := r.left[0]
	r.left = r.left[1:]
	return t
}

// expect takes a token off, which must be of a kind, or more must follow what begins at open.
func (r *reader) expect(kind uint8, open api.Pos) {
	switch r.next() {
	case kind:
		r.take()
	case none:
		r.refuse(open, api.ErrOpen)
	default:
		r.refuse(r.left[0].Pos, api.ErrWord)
	}
}

// statements takes all off.
func (r *reader) statements() []Node {
	var within func(deep int) []Node
	within = func(deep int) []Node {
		var l []Node
		for r.next() == lex.Plain {
			n := r.words()
			if r.next() != lex.Open {
				l = append(l, r.leaves(n)...)
				continue
			}
			brace := r.take().Pos
			if deep == MaxDeep {
				r.refuse(brace, api.ErrDeep)
			}
			n.Block, n.Kids = true, within(deep+1)
			r.expect(lex.Close, brace)
			l = append(l, n)
		}
		return l
	}
	l := within(0)
	if r.next() != none {
		r.refuse(r.left[0].Pos, api.ErrWord)
	}
	return l
}

// words takes off the words that are next.
func (r *reader) words() Node {
	var n Node
	for r.next() == lex.Plain {
		t := r.take()
		n.Words = append(n.Words, t.Text)
		n.Pos = append(n.Pos, t.Pos)
	}
	return n
}

// leaves takes off what follows the words ahead of a leaf, up to its end: it is as many leaves as there are words between signs.
func (r *reader) leaves(ahead Node) []Node {
	first := ahead.Pos[0]
	if r.next() != lex.Left {
		r.expect(lex.End, first)
		return []Node{ahead}
	}
	r.take()
	last := r.words()
	if len(last.Words) == 0 {
		r.expect(lex.Plain, first)
	}
	r.expect(lex.Right, first)
	r.expect(lex.End, first)
	if r.e != api.OK {
		return nil
	}
	l := make([]Node, len(last.Words))
	for i := range l {
		l[i].Words = slices.Concat(ahead.Words, last.Words[i:i+1])
		l[i].Pos = slices.Concat(ahead.Pos, last.Pos[i:i+1])
	}
	return l
}
