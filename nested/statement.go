package nested

import (
	"strings"

	"waymark/addr"
	"waymark/api"
	"waymark/lex"
	"waymark/tree"
	"waymark/words"
)

// set is what a block has said that may stand there once.
type set map[string]struct{}

func (s set) has(what string) bool {
	_, is := s[what]
	return is
}

// statement is one that is read. What is said by one that has failed is nothing: its device is not told then.
type statement struct {
	words.Row // its words
	node      tree.Node
	said      set // by its block
}

// read reads the statements of a block, each by a method, up to the first one that fails, and tells what they said and what was refused.
func read(l []tree.Node, each func(*statement)) (set, api.Pos, api.Errno) {
	said := set{}
	for _, n := range l {
		s := statement{Row: row(n), node: n, said: said}
		each(&s)
		if pos, e := s.Fault(); e != api.OK {
			return nil, pos, e
		}
	}
	return said, api.Pos{}, api.OK
}

// row is a statement's words. One that is missing is told at the first one.
func row(n tree.Node) words.Row {
	list := make([]lex.Word, len(n.Words))
	for i, text := range n.Words {
		list[i].Text = text
		if i < len(n.Pos) {
			list[i].Pos = n.Pos[i]
		}
	}
	if len(list) == 0 {
		return words.New(nil, api.Pos{})
	}
	return words.New(list, list[0].Pos)
}

// end ends a statement's words; it must be a block, or must be none.
func (s *statement) end(block bool) {
	s.End()
	if s.node.Block != block {
		s.RefuseAll(api.ErrWord)
	}
}

// leaf ends a leaf.
func (s *statement) leaf() { s.end(false) }

// once ends a leaf of which there may be one in its block.
func (s *statement) once(what string) {
	s.leaf()
	if s.said.has(what) {
		s.RefuseAll(api.ErrTwice)
	}
	s.said[what] = struct{}{}
}

// block ends the words of a block, reads its statements by a method, and tells what they said.
func (s *statement) block(each func(*statement)) set {
	s.end(true)
	if _, e := s.Fault(); e != api.OK {
		return nil
	}
	said, pos, e := read(s.node.Kids, each)
	s.Fail(pos, e)
	return said
}

// host takes an interface's address off, with the bits of its subnet.
func (s *statement) host() (api.Addr, int) {
	ahead, behind, _ := strings.Cut(s.Word(), "/")
	a, e := addr.Parse(ahead)
	if e != api.OK {
		s.Refuse(api.ErrWord)
	}
	s.Digits(behind)
	return a, s.Within(behind, 1, topBits)
}

// ports takes ports off: one, or two with what is between them.
func (s *statement) ports() api.Span {
	low, high, two := strings.Cut(s.Word(), "-")
	if !two {
		high = low
	}
	s.Digits(low, high)
	lo := s.Within(low, 0, topPort)
	hi := s.Within(high, lo, topPort)
	return api.Span{Lo: uint32(lo), Hi: uint32(hi)}
}

// proto takes a protocol off.
func (s *statement) proto() int {
	switch {
	case s.Next("tcp"):
		return tcp
	case s.Next("udp"):
		return udp
	case s.Next("icmp"):
		return icmp
	}
	return s.Number(0, topProto)
}

// redist takes off from where routes are taken over, and how; which side there is besides, hangs on who takes them over.
func (s *statement) redist(other string) api.Redist {
	x := api.Redist{From: sideOf(s.One("direct", "static", other))}
	x.Metric = s.Option("metric", 0, topNumber, none)
	if other == "bgp" {
		x.Type = uint8(s.Option("type", 1, 2, anyType))
	}
	x.Policy = s.Named("policy")
	s.leaf()
	return x
}
