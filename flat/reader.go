package flat

import (
	"waymark/addr"
	"waymark/api"
	"waymark/lex"
	"waymark/words"
)

// mark is what may stand once, or what several lines speak of: of a name, in a block.
type mark struct {
	block    int
	what, of string
}

// reader reads lines, one behind the other. What it says when a line has failed is nothing: its device is not told then.
type reader struct {
	words.Row // the line's words
	device    api.Device
	take      func() // reads a line of the block that is open; nil where none is
	blocks    int    // how many were opened
	block     int    // the one in which the line stands, 0 in none
	said      map[mark]struct{}
	places    map[mark]int // of what several lines speak of, in its list
	policy    *api.Policy  // the one whose clause is open
}

func newReader() *reader {
	return &reader{device: api.Device{Kind: api.Flat}, said: map[mark]struct{}{}, places: map[mark]int{}}
}

// line reads a line, and tells what of it was refused, and where.
func (r *reader) line(l lex.Line) (api.Pos, api.Errno) {
	last := l.Words[len(l.Words)-1]
	r.Row = words.New(l.Words, api.Pos{Line: last.Pos.Line, Col: last.Pos.Col + len(last.Text)})
	switch {
	case l.Indent == 0:
		r.block, r.take = 0, nil
		r.statement()
	case l.Indent == 1 && r.take != nil:
		r.block = r.blocks
		r.take()
	default:
		r.RefuseAll(api.ErrBlank)
	}
	return r.Fault()
}

// open opens a block, of which each line is read by a method.
func (r *reader) open(take func()) {
	r.blocks++
	r.take = take
}

// once ends a line of which there may be one in its block.
func (r *reader) once(what, of string) {
	r.End()
	m := mark{r.block, what, of}
	if _, twice := r.said[m]; twice {
		r.RefuseAll(api.ErrTwice)
	}
	r.said[m] = struct{}{}
}

// spoken is the thing of a name, of which several lines may speak: the first one of these puts it behind its list.
func spoken[T any](r *reader, what, name string, list *[]T, fresh T) *T {
	m := mark{what: what, of: name}
	at, known := r.places[m]
	if !known {
		at = len(*list)
		r.places[m] = at
		*list = append(*list, fresh)
	}
	return &(*list)[at]
}

// permits takes off whether a line permits.
func (r *reader) permits() bool { return r.One("permit", "deny") == "permit" }

// vrf takes a VRF off, if one is said.
func (r *reader) vrf() string { return r.Named("vrf") }

// masked takes a prefix off, as an address and a mask.
func (r *reader) masked() api.Prefix {
	a := r.Addr()
	return r.behind(a, r.Addr())
}

// behind is the prefix of an address whose mask was taken off last.
func (r *reader) behind(a, mask api.Addr) api.Prefix {
	bits, e := addr.Bits(mask)
	p := api.Prefix{Addr: a, Bits: bits}
	if e != api.OK || addr.Check(p) != api.OK {
		r.Refuse(api.ErrMask)
	}
	return p
}
