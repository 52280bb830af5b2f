package rel_test

import (
	"testing"

	"waymark/api"
	"waymark/header"
	"waymark/rel"
)

// P6.1: what is held are the nodes of what was answered, each once, and none of what was only made on the way.
func TestUsed(t *testing.T) {
	node := ok[int](t)
	s := space(t)
	held := func(what any, more int, call func() (int, api.Errno)) {
		t.Helper()
		used := s.Used()
		for range 2 {
			if node(call()); s.Used() != used+more {
				t.Error(what, s.Used()-used, more)
			}
		}
	}
	for i, h := range turned(everyday) {
		// Below the bit that is turned the two are the same.
		if i == 0 {
			i = header.Width
		}
		held(h, i, func() (int, api.Errno) { return s.Header(h) })
	}
	for n := range 33 {
		p := api.Prefix{Bits: n}
		s = space(t)
		held(p, n, func() (int, api.Errno) { return s.Prefix(rel.Src, p) })
		held(p, n, func() (int, api.Errno) { return s.Prefix(rel.Dst, p) })
	}
	for f, n := range widths {
		s = space(t)
		put := node(s.Put(rel.Field(f), 1))
		if s.Used() != n+3*(header.Width-n) {
			t.Error("Put", f, s.Used())
		}
		held("Image", n, func() (int, api.Errno) { return s.Image(put, 1) })
		one := node(s.Image(put, 1))
		held("Image of that", 0, func() (int, api.Errno) { return s.Image(put, one) })
		held("Preimage of that", 0, func() (int, api.Errno) { return s.Preimage(put, one) })
	}
	s = space(t)
	held("Keep", 3*header.Width, s.Keep)
	keep := node(s.Keep())
	set := node(s.Prefix(rel.Src, ten))
	held("Image", 0, func() (int, api.Errno) { return s.Image(keep, set) })
	held("Preimage", 0, func() (int, api.Errno) { return s.Preimage(keep, set) })
	held("Or", 0, func() (int, api.Errno) { return s.Or(set, 0) })
	held("Not", 8, func() (int, api.Errno) { return s.Not(set) })
	held("Less", 0, func() (int, api.Errno) { return s.Less(1, set) })
}

// script makes calls one behind the other, of what those ahead have answered, till it is told to stop: it is told the answers one by one.
func script(s *rel.Space, took func(n int, e api.Errno) bool) {
	var made []int
	call := func(n int, e api.Errno) bool {
		made = append(made, n)
		return took(n, e)
	}
	at := func(back int) int { return made[len(made)-back] }
	for i := range uint32(6) {
		src, e := s.Prefix(rel.Src, api.Prefix{Addr: api.Addr(i*37%16) << 28, Bits: 4})
		if !call(src, e) || !call(s.Numbers(rel.DstPort, pairs(i*100, i*1000, 60000, 60000+i))) || !call(s.And(at(2), at(1))) {
			return
		}
		if !call(s.Not(at(1))) || !call(s.Keep()) || !call(s.Where(at(1), at(2))) {
			return
		}
		if !call(s.Put([]rel.Field{rel.Src, rel.Dst, rel.Proto}[i%3], i)) || !call(s.Where(at(1), at(5))) || !call(s.Either(at(3), at(1))) {
			return
		}
		if !call(s.Header(api.Header{Src: api.Addr(i), Dst: 5, DstPort: uint16(i)})) || !call(s.Less(at(7), at(1))) || !call(s.Image(at(3), at(1))) {
			return
		}
		if i > 0 && (!call(s.Or(at(1), at(13))) || !call(s.Preimage(at(5), at(1)))) {
			return
		}
	}
}

// P6.6: the first call that is refused is the first one for which there is not just the room; those ahead answer the same.
func TestJustRoom(t *testing.T) {
	large := space(t)
	var nodes, used []int
	script(large, func(n int, e api.Errno) bool {
		nodes, used = append(nodes, ok[int](t)(n, e)), append(used, large.Used())
		return true
	})
	rooms := []int{0, 1, 3, 4, 5, 50, 1000, large.Used() - 1, large.Used()}
	for _, most := range append(rooms, used...) {
		s, e := rel.New(most)
		if e != api.OK {
			t.Fatal(e)
		}
		i := 0
		script(s, func(n int, e api.Errno) bool {
			if used[i] > most {
				if n != 0 || e != api.ErrFull || i > 0 && s.Used() != used[i-1] {
					t.Fatal("refused", most, i, n, e, s.Used())
				}
				return false
			}
			if e != api.OK || s.Used() != used[i] {
				t.Fatal("answered", most, i, e, s.Used(), used[i])
			}
			want, _ := large.Count(nodes[i])
			if c, _ := s.Count(n); c != want {
				t.Fatal("Count", most, i, c, want)
			}
			i++
			return true
		})
		if i < len(used) && used[i] <= most {
			t.Fatal(most, i)
		}
	}
}

// R4: what is refused has changed nothing: what there is room for is answered behind it.
func TestRefused(t *testing.T) {
	s, _ := rel.New(header.Width + 3)
	node := ok[int](t)
	h := node(s.Header(everyday))
	for range 2 {
		for what, call := range map[string]func() (int, api.Errno){
			"Header":  func() (int, api.Errno) { return s.Header(greatest) },
			"Prefix":  func() (int, api.Errno) { return s.Prefix(rel.Src, ten) },
			"Numbers": func() (int, api.Errno) { return s.Numbers(rel.Proto, pairs(9, 9)) },
			"Not":     func() (int, api.Errno) { return s.Not(h) },
			"Less":    func() (int, api.Errno) { return s.Less(1, h) },
			"Keep":    func() (int, api.Errno) { return s.Keep() },
			"Put":     func() (int, api.Errno) { return s.Put(rel.Src, 1) },
		} {
			if n, e := call(); n != 0 || e != api.ErrFull || s.Used() != header.Width {
				t.Error(what, n, e, s.Used())
			}
		}
	}
	low := node(s.Prefix(rel.Dst, api.Prefix{Addr: 0x80000000, Bits: 1}))
	high := node(s.Prefix(rel.Src, api.Prefix{Addr: 0x80000000, Bits: 1}))
	if both := node(s.And(low, high)); both == 0 || s.Used() != header.Width+3 {
		t.Error(both, s.Used())
	}
	if n, e := s.Or(low, high); n != 0 || e != api.ErrFull {
		t.Error(n, e)
	}
	if again, e := s.Header(everyday); again != h || e != api.OK {
		t.Error(again, h, e)
	}
}

// P6.6, R4: what was made for calls that were refused does not take the room of others, however much it was.
func TestManyRefused(t *testing.T) {
	const most = 4*header.Width + 8
	s, _ := rel.New(most)
	node := ok[int](t)
	keep, h := node(s.Keep()), node(s.Header(with(everyday, rel.DstPort, 65535)))
	used := s.Used()
	for i := range 3000 {
		if n, e := s.Header(api.Header{Src: api.Addr(i), Dst: 7, Proto: 17, SrcPort: uint16(i), DstPort: uint16(2*i + 1)}); n != 0 || e != api.ErrFull || s.Used() != used {
			t.Fatal(i, n, e, s.Used())
		}
	}
	// Of these all nodes are new, but there is room for them once.
	if used > most-8 {
		t.Fatal(used)
	}
	set := node(s.Numbers(rel.SrcPort, pairs(5*256, 6*256-1)))
	if s.Used() != used+8 {
		t.Error(s.Used(), used)
	}
	for what, pair := range map[string][2]int{
		"Keep":     {node(s.Keep()), keep},
		"Header":   {node(s.Header(with(everyday, rel.DstPort, 65535))), h},
		"Image":    {node(s.Image(keep, set)), set},
		"Preimage": {node(s.Preimage(keep, h)), h},
		"Less":     {node(s.Less(h, set)), h},
		"And":      {node(s.And(h, set)), 0},
	} {
		if pair[0] != pair[1] {
			t.Error(what, pair)
		}
	}
	if is, e := s.Has(h, everyday); is || e != api.OK {
		t.Error(is, e)
	}
	if c, e := s.Count(set); c != (api.Count{Hi: 1 << 32}) || e != api.OK {
		t.Error(c, e)
	}
}

// single is the set of the headers of which a bit of a field, by its place from the highest on, is set.
func single(t *testing.T, s *rel.Space, f rel.Field, bit int) int {
	var l []api.Span
	size := uint64(1) << (widths[f] - 1 - bit)
	for first := size; first < 1<<widths[f]; first += 2 * size {
		l = append(l, api.Span{Lo: uint32(first), Hi: uint32(first + size - 1)})
	}
	return ok[int](t)(s.Numbers(f, l))
}

// P6.6: an answer that is far too large for its room is refused, and leaves the room as it was.
func TestFarTooLarge(t *testing.T) {
	const many = 12
	s, _ := rel.New(2500)
	node := ok[int](t)
	// For each source a bit that is set in both ports: a small set, but not without the sources.
	set := 0
	for i := range many {
		both := node(s.And(single(t, s, rel.SrcPort, i), single(t, s, rel.DstPort, i)))
		src := node(s.Numbers(rel.Src, pairs(uint32(i), uint32(i))))
		set = node(s.Or(set, node(s.And(src, both))))
	}
	put := node(s.Put(rel.Src, 0))
	used := s.Used()
	for range 2 {
		if n, e := s.Image(put, set); n != 0 || e != api.ErrFull || s.Used() != used {
			t.Fatal(n, e, s.Used(), used)
		}
	}
	odd := make([]api.Span, 1<<17)
	next := numbers(9)
	for i := range odd {
		odd[i].Lo = uint32(next(1 << 31))
		odd[i].Hi = odd[i].Lo
	}
	if n, e := s.Numbers(rel.Dst, odd); n != 0 || e != api.ErrFull || s.Used() != used {
		t.Fatal(n, e, s.Used(), used)
	}
	one := node(s.Numbers(rel.Src, pairs(3, 3)))
	of := node(s.And(one, set))
	image := node(s.Image(put, of))
	if want := node(s.And(node(s.Numbers(rel.Src, pairs(0, 0))), node(s.And(single(t, s, rel.SrcPort, 3), single(t, s, rel.DstPort, 3))))); image != want {
		t.Error(image, want)
	}
}
