package rel_test

import (
	"math"
	"slices"
	"testing"

	"waymark/api"
	"waymark/rel"
)

// call is one of a space's calls with one argument to choose: what it answers, and whether that is zero.
type call func(n int) (any, bool, api.Errno)

// node is a call that answers a node.
func node(of func(n int) (int, api.Errno)) call {
	return func(n int) (any, bool, api.Errno) {
		m, e := of(n)
		return m, m == 0, e
	}
}

// ofSets are all calls that are handed a set, at each place where they are.
func ofSets(s *rel.Space) map[string]call {
	return map[string]call{
		"And":      node(func(n int) (int, api.Errno) { return s.And(n, 0) }),
		"And 2":    node(func(n int) (int, api.Errno) { return s.And(0, n) }),
		"Or":       node(func(n int) (int, api.Errno) { return s.Or(n, 1) }),
		"Or 2":     node(func(n int) (int, api.Errno) { return s.Or(1, n) }),
		"Less":     node(func(n int) (int, api.Errno) { return s.Less(n, 1) }),
		"Less 2":   node(func(n int) (int, api.Errno) { return s.Less(0, n) }),
		"Not":      node(s.Not),
		"Where 2":  node(func(n int) (int, api.Errno) { return s.Where(0, n) }),
		"Image 2":  node(func(n int) (int, api.Errno) { return s.Image(0, n) }),
		"Preimage": node(func(n int) (int, api.Errno) { return s.Preimage(0, n) }),
		"Has": func(n int) (any, bool, api.Errno) {
			is, e := s.Has(n, api.Header{})
			return is, !is, e
		},
		"Count": func(n int) (any, bool, api.Errno) {
			c, e := s.Count(n)
			return c, c == api.Count{}, e
		},
		"Least": func(n int) (any, bool, api.Errno) {
			h, e := s.Least(n)
			return h, h == api.Header{}, e
		},
	}
}

// ofNodes are all calls that are handed a relation, at each place where they are.
func ofNodes(s *rel.Space) map[string]call {
	return map[string]call{
		"Where":      node(func(n int) (int, api.Errno) { return s.Where(n, 0) }),
		"Either":     node(func(n int) (int, api.Errno) { return s.Either(n, 1) }),
		"Either 2":   node(func(n int) (int, api.Errno) { return s.Either(1, n) }),
		"Image 1":    node(func(n int) (int, api.Errno) { return s.Image(n, 0) }),
		"Preimage 1": node(func(n int) (int, api.Errno) { return s.Preimage(n, 0) }),
		"Leads": func(n int) (any, bool, api.Errno) {
			is, e := s.Leads(n, api.Header{}, api.Header{})
			return is, !is, e
		},
	}
}

// P6.2, P6.3: what no call has answered is no node, also where it stands in the diagram of another one; what hangs on a header behind is no set.
func TestWhatIsNone(t *testing.T) {
	s := space(t)
	keep := ok[int](t)(s.Keep())
	put := ok[int](t)(s.Put(rel.DstPort, 80))
	h := ok[int](t)(s.Header(everyday))
	g := ok[int](t)(s.Header(greatest))
	low, high := ok[int](t)(s.Where(keep, h)), ok[int](t)(s.Where(keep, g))
	used := s.Used()
	sets, relations := []int{0, 1, h, g}, []int{keep, put, low, high}
	wrong := []int{math.MinInt, -1 << 32, -2, -1, 1 << 31, 1 << 32, 1<<32 + 1, 1<<32 + h, math.MaxInt}
	for n := range 3000 {
		if !slices.Contains(sets, n) && !slices.Contains(relations, n) {
			wrong = append(wrong, n)
		}
	}
	refused := func(name string, of call, list []int) {
		t.Helper()
		for _, n := range list {
			if got, zero, e := of(n); e != api.ErrArg || !zero {
				t.Errorf("%s of %d: %v %v", name, n, got, e)
			}
		}
	}
	for name, of := range ofSets(s) {
		refused(name, of, wrong)
		refused(name, of, relations)
	}
	for name, of := range ofNodes(s) {
		refused(name, of, wrong)
	}
	if s.Used() != used {
		t.Error("what was refused has made nodes:", s.Used(), used)
	}
	for name, of := range ofNodes(s) {
		for _, n := range append(relations, sets...) {
			if _, _, e := of(n); e != api.OK {
				t.Errorf("%s of %d: %v", name, n, e)
			}
		}
	}
	for name, of := range ofSets(s) {
		for _, n := range sets {
			if _, _, e := of(n); e != api.OK && !(name == "Least" && n == 0 && e == api.ErrNone) {
				t.Errorf("%s of %d: %v", name, n, e)
			}
		}
	}
}

// Errors: fields, prefixes and numbers that may not be; they are told ahead of that there is no room.
func TestWhatMayNotBe(t *testing.T) {
	small, _ := rel.New(0)
	for _, s := range []*rel.Space{small, space(t)} {
		for _, f := range []rel.Field{math.MinInt, -1, 5, 6, 1 << 32, math.MaxInt} {
			for what, of := range map[string]func() (int, api.Errno){
				"Prefix":  func() (int, api.Errno) { return s.Prefix(f, ten) },
				"Numbers": func() (int, api.Errno) { return s.Numbers(f, pairs(1, 2)) },
				"Put":     func() (int, api.Errno) { return s.Put(f, 0) },
			} {
				if n, e := of(); n != 0 || e != api.ErrArg {
					t.Error(what, f, n, e)
				}
			}
		}
		for _, f := range []rel.Field{rel.Proto, rel.SrcPort, rel.DstPort, -1} {
			for _, p := range []api.Prefix{{}, ten, {Addr: 1, Bits: 8}, {Bits: 33}} {
				if n, e := s.Prefix(f, p); n != 0 || e != api.ErrArg {
					t.Error("Prefix", f, p, n, e)
				}
			}
		}
		for _, f := range []rel.Field{rel.Src, rel.Dst} {
			for p, want := range map[api.Prefix]api.Errno{
				{Bits: 33}: api.ErrArg, {Bits: -1}: api.ErrArg, {Bits: math.MinInt}: api.ErrArg, {Addr: 1, Bits: 33}: api.ErrArg,
				{Addr: 1, Bits: 31}: api.ErrMask, {Addr: 0x0A000001, Bits: 8}: api.ErrMask, {Addr: 1 << 31}: api.ErrMask,
			} {
				if n, e := s.Prefix(f, p); n != 0 || e != want {
					t.Error("Prefix", f, p, n, e)
				}
			}
		}
		for f, v := range map[rel.Field]uint32{rel.Proto: 1 << 8, rel.SrcPort: 1 << 16, rel.DstPort: 1 << 16} {
			for _, v := range []uint32{v, v + 1, 1 << 31, math.MaxUint32} {
				if n, e := s.Put(f, v); n != 0 || e != api.ErrArg {
					t.Error("Put", f, v, n, e)
				}
			}
		}
		if h, e := s.Least(0); h != (api.Header{}) || e != api.ErrNone {
			t.Error("Least", h, e)
		}
		if s.Used() != 0 {
			t.Error(s.Used())
		}
	}
}

// P6.1: how much room may be asked for; and a space without any.
func TestNew(t *testing.T) {
	for _, most := range []int{math.MinInt, -1, api.MaxNodes + 1, math.MaxInt} {
		if s, e := rel.New(most); s != nil || e != api.ErrArg {
			t.Error(most, s, e)
		}
	}
	s, e := rel.New(0)
	if e != api.OK {
		t.Fatal(e)
	}
	for what, of := range map[string]func() (int, api.Errno){
		"Header":  func() (int, api.Errno) { return s.Header(everyday) },
		"Prefix":  func() (int, api.Errno) { return s.Prefix(rel.Dst, ten) },
		"Numbers": func() (int, api.Errno) { return s.Numbers(rel.Proto, pairs(6, 6)) },
		"Keep":    s.Keep,
		"Put":     func() (int, api.Errno) { return s.Put(rel.Dst, math.MaxUint32) },
	} {
		if n, e := of(); n != 0 || e != api.ErrFull {
			t.Error(what, n, e)
		}
	}
	zero, one := ok[int](t)(s.Not(1)), ok[int](t)(s.Not(0))
	all := ok[int](t)(s.Prefix(rel.Dst, api.Prefix{}))
	image := ok[int](t)(s.Image(1, 1))
	if zero != 0 || one != 1 || all != 1 || image != 1 || s.Used() != 0 {
		t.Error(zero, one, all, image, s.Used())
	}
}

// R1, R4, R5: what is asked of no space, or of one that New has not made.
func TestNil(t *testing.T) {
	var none *rel.Space
	for _, s := range []*rel.Space{none, {}} {
		if s.Used() != 0 {
			t.Error(s.Used())
		}
		for what, of := range map[string]func() (int, api.Errno){
			"Header":  func() (int, api.Errno) { return s.Header(everyday) },
			"Prefix":  func() (int, api.Errno) { return s.Prefix(9, api.Prefix{Addr: 1, Bits: 77}) },
			"Numbers": func() (int, api.Errno) { return s.Numbers(-1, pairs(3, 1)) },
			"Keep":    s.Keep,
			"Put":     func() (int, api.Errno) { return s.Put(rel.Proto, 256) },
			"Where":   func() (int, api.Errno) { return s.Where(-1, -1) },
			"Either":  func() (int, api.Errno) { return s.Either(-1, 7) },
		} {
			if n, e := of(); n != 0 || e != api.ErrNil {
				t.Error(what, n, e)
			}
		}
		for _, all := range []map[string]call{ofSets(s), ofNodes(s)} {
			for name, of := range all {
				for _, n := range []int{math.MinInt, -1, 0, 1, 2, math.MaxInt} {
					if got, zero, e := of(n); !zero || e != api.ErrNil {
						t.Errorf("%s of %d: %v %v", name, n, got, e)
					}
				}
			}
		}
	}
}

// R1: a space that was copied never panics.
func TestCopied(t *testing.T) {
	s := space(t)
	keep := ok[int](t)(s.Keep())
	copied := *s
	for i := range 40 {
		for _, x := range []*rel.Space{s, &copied} {
			a, _ := x.Header(api.Header{Src: api.Addr(i), Proto: uint8(3 * i)})
			b, _ := x.Or(a, 0)
			x.Image(keep, b)
			for _, all := range []map[string]call{ofSets(x), ofNodes(x)} {
				for _, of := range all {
					of(i)
					of(x.Used() + 2 - i)
				}
			}
		}
	}
}

// R3: what is handed in stays as it is, is not read beyond its length, and not kept.
func TestNotKept(t *testing.T) {
	s := space(t)
	room := pairs(9, 20, 3, 5, 4, 2, 4, 7, 100, 200)
	before := slices.Clone(room)
	a := ok[int](t)(s.Numbers(rel.Proto, room[:4]))
	if !slices.Equal(room, before) {
		t.Error(room)
	}
	clear(room)
	if c, e := s.Count(a); c != (api.Count{Hi: 17 << 32}) || e != api.OK {
		t.Error(c, e)
	}
}

// R2: spaces do not see one another.
func TestTwoSpaces(t *testing.T) {
	s, u := space(t), space(t)
	a := ok[int](t)(s.Header(everyday))
	if u.Used() != 0 {
		t.Error(u.Used())
	}
	if _, e := u.Count(a); e != api.ErrArg {
		t.Error(e)
	}
	b := ok[int](t)(u.Prefix(rel.Src, ten))
	just(t, s, a, a, turned(everyday), func(h api.Header) bool { return h == everyday })
	just(t, u, b, b, turned(everyday), func(h api.Header) bool { return h.Src>>24 == 10 })
}
