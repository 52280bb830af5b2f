package rel

import (
	"waymark/addr"
	"waymark/api"
	"waymark/header"
)

// Header is the set of a header.
func (s *Space) Header(h api.Header) (int, api.Errno) {
	if e := s.check(); e != api.OK {
		return 0, e
	}
	bit := bits(h)
	return s.held.answer(func(m *maker) int {
		return m.laid(func(i, n int) int { return m.only(here(i), bit(i), n) })
	})
}

// Prefix is the set of the headers whose field is in a prefix.
func (s *Space) Prefix(f Field, p api.Prefix) (int, api.Errno) {
	if e := s.check(); e != api.OK {
		return 0, e
	}
	if f != Src && f != Dst {
		return 0, api.ErrArg
	}
	first, last, e := addr.Ends(p)
	if e != api.OK {
		return 0, e
	}
	return s.Numbers(f, []api.Span{{Lo: uint32(first), Hi: uint32(last)}})
}

// Numbers is the set of the headers whose field is in a set.
func (s *Space) Numbers(f Field, l []api.Span) (int, api.Errno) {
	if e := s.check(); e != api.OK {
		return 0, e
	}
	x, is := f.extent()
	if !is {
		return 0, api.ErrArg
	}
	return s.held.answer(func(m *maker) int { return m.among(x, l) })
}

// And is what is in both.
func (s *Space) And(a, b int) (int, api.Errno) {
	if e := s.checkSets(a, b); e != api.OK {
		return 0, e
	}
	return s.held.answer(func(m *maker) int { return m.join(m.arena.And, a, b) })
}

// Or is what is in either.
func (s *Space) Or(a, b int) (int, api.Errno) {
	if e := s.checkSets(a, b); e != api.OK {
		return 0, e
	}
	return s.held.answer(func(m *maker) int { return m.join(m.arena.Or, a, b) })
}

// Less is what is in a and not in b.
func (s *Space) Less(a, b int) (int, api.Errno) {
	if e := s.checkSets(a, b); e != api.OK {
		return 0, e
	}
	return s.held.answer(func(m *maker) int {
		return m.made(m.arena.Ite(m.inner(b), 0, m.inner(a)))
	})
}

// Not is what is not in a.
func (s *Space) Not(a int) (int, api.Errno) {
	return s.Less(1, a)
}

// Has tells whether a header is in a set.
func (s *Space) Has(a int, h api.Header) (bool, api.Errno) {
	if e := s.checkSets(a); e != api.OK {
		return false, e
	}
	return s.Leads(a, h, api.Header{})
}

// Count tells how many headers there are.
func (s *Space) Count(a int) (api.Count, api.Errno) {
	if e := s.checkSets(a); e != api.OK {
		return api.Count{}, e
	}
	return s.held.arena.Count(s.held.inner(a), all(here))
}

// Least tells the least header.
func (s *Space) Least(a int) (api.Header, api.Errno) {
	if e := s.checkSets(a); e != api.OK {
		return api.Header{}, e
	}
	values, e := s.held.arena.Least(s.held.inner(a), all(here))
	var h api.Header
	for i, bit := range values {
		h, _ = header.With(h, i, bit)
	}
	return h, e
}
