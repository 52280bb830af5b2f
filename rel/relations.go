package rel

import (
	"waymark/api"
	"waymark/header"
)

// Keep leads from each header to itself.
func (s *Space) Keep() (int, api.Errno) {
	if e := s.check(); e != api.OK {
		return 0, e
	}
	return s.held.answer(func(m *maker) int { return m.laid(m.same) })
}

// Put leads to the header with a value in a field.
func (s *Space) Put(f Field, v uint32) (int, api.Errno) {
	if e := s.check(); e != api.OK {
		return 0, e
	}
	x, is := f.extent()
	if !is || v>>x.bits != 0 {
		return 0, api.ErrArg
	}
	return s.held.answer(func(m *maker) int {
		return m.laid(func(i, n int) int {
			if i < x.first || i >= x.first+x.bits {
				return m.same(i, n)
			}
			below := x.first + x.bits - 1 - i
			return m.only(behind(i), v>>below&1 != 0, n)
		})
	})
}

// Where leads from the headers of a set alone.
func (s *Space) Where(r, a int) (int, api.Errno) {
	if e := s.checkWith(r, a); e != api.OK {
		return 0, e
	}
	return s.held.answer(func(m *maker) int { return m.join(m.arena.And, r, a) })
}

// Either leads where one of two does.
func (s *Space) Either(r, q int) (int, api.Errno) {
	if e := s.checkNodes(r, q); e != api.OK {
		return 0, e
	}
	return s.held.answer(func(m *maker) int { return m.join(m.arena.Or, r, q) })
}

// Leads tells whether a relation leads from a header to another one.
func (s *Space) Leads(r int, from, to api.Header) (bool, api.Errno) {
	if e := s.checkNodes(r); e != api.OK {
		return false, e
	}
	values := make([]bool, variables)
	fromBit, toBit := bits(from), bits(to)
	for i := range header.Width {
		values[here(i)], values[behind(i)] = fromBit(i), toBit(i)
	}
	return s.held.arena.At(s.held.inner(r), values)
}

// Image is where a relation leads from a set.
func (s *Space) Image(r, a int) (int, api.Errno) {
	if e := s.checkWith(r, a); e != api.OK {
		return 0, e
	}
	return s.held.answer(func(m *maker) int {
		from := m.join(m.arena.And, r, a)
		to := m.made(m.arena.Exists(from, all(here)...))
		return m.made(m.arena.Rename(to, all(behind), all(here)))
	})
}

// Preimage is from where a relation leads to a set.
func (s *Space) Preimage(r, a int) (int, api.Errno) {
	if e := s.checkWith(r, a); e != api.OK {
		return 0, e
	}
	return s.held.answer(func(m *maker) int {
		to := m.made(m.arena.Rename(m.inner(a), all(here), all(behind)))
		from := m.made(m.arena.And(m.inner(r), to))
		return m.made(m.arena.Exists(from, all(behind)...))
	})
}

// checkWith tells whether there is a space, whether the first number is a node of it, and the second one a set.
func (s *Space) checkWith(r, a int) api.Errno {
	if e := s.checkNodes(r); e != api.OK {
		return e
	}
	return s.checkSets(a)
}
