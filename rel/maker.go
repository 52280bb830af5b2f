package rel

import (
	"waymark/api"
	"waymark/header"
	"waymark/spans"
)

// variables is how many the arena has: two for each bit of a header.
const variables = 2 * header.Width

// here is the variable of a header's bit.
func here(i int) int { return 2 * i }

// behind is the variable of the same bit of the header to which a relation leads.
func behind(i int) int { return 2*i + 1 }

// all are the variables that a function tells of a header's bits.
func all(of func(i int) int) []int {
	list := make([]int, header.Width)
	for i := range list {
		list[i] = of(i)
	}
	return list
}

// bits tells of a header's bits whether they are set.
func bits(h api.Header) func(i int) bool {
	b := header.Bytes(h)
	return func(i int) bool { return b[i/8]>>(7-i%8)&1 != 0 }
}

// maker makes nodes of the arena, one out of the other. When one was refused, so is all that is made.
type maker struct {
	*store
	e api.Errno
}

// made is what the arena has answered.
func (m *maker) made(inner int, e api.Errno) int {
	if m.e == api.OK {
		m.e = e
	}
	return inner
}

// join is two nodes of the space, joined by one of the arena's calls.
func (m *maker) join(how func(f, g int) (int, api.Errno), a, b int) int {
	return m.made(how(m.inner(a), m.inner(b)))
}

// choice is one node where a variable is false, and another one where it is true.
func (m *maker) choice(variable, low, high int) int {
	if m.e != api.OK {
		return 0
	}
	x := m.made(m.arena.Var(variable))
	return m.made(m.arena.Ite(x, high, low))
}

// only is a node where a variable has a value, and nothing elsewhere.
func (m *maker) only(variable int, value bool, n int) int {
	if value {
		return m.choice(variable, 0, n)
	}
	return m.choice(variable, n, 0)
}

// same is a node where a bit is the same behind, and nothing elsewhere.
func (m *maker) same(i, n int) int {
	return m.choice(here(i), m.only(behind(i), false, n), m.only(behind(i), true, n))
}

// laid is what comes of all headers when all bits are laid ahead, the last bit first, each on what was laid so far.
func (m *maker) laid(lay func(i, n int) int) int {
	n := 1
	for i := header.Width - 1; i >= 0; i-- {
		n = lay(i, n)
	}
	return n
}

// among are the headers of which a field is in a set.
func (m *maker) among(x extent, set []api.Span) int {
	form := spans.Form(set)
	// The numbers are come by in their order: so from one call to the next the spans ahead of them can stay behind.
	var lay func(bit int, first uint64) int
	lay = func(bit int, first uint64) int {
		size := uint64(1) << (x.bits - bit)
		last := first + size - 1
		for len(form) > 0 && uint64(form[0].Hi) < first {
			form = form[1:]
		}
		if len(form) == 0 || uint64(form[0].Lo) > last || m.e != api.OK {
			return 0
		}
		if uint64(form[0].Lo) <= first && uint64(form[0].Hi) >= last {
			return 1
		}
		low := lay(bit+1, first)
		high := lay(bit+1, first+size/2)
		return m.choice(here(x.first+bit), low, high)
	}
	return lay(0, 0)
}
