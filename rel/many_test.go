package rel_test

import (
	"maps"
	"math/bits"
	"slices"
	"testing"

	"waymark/api"
	"waymark/rel"
)

// world is a space beside what its sets and relations should be.
type world struct {
	*rel.Space
	most      int
	sets      map[int]group
	numbers   map[group]int
	relations map[int]leads
}

func newWorld(t *testing.T, most int) *world {
	s, e := rel.New(most)
	if e != api.OK {
		t.Fatal(most, e)
	}
	none := grouped(func(box) bool { return false })
	all := grouped(func(box) bool { return true })
	return &world{
		s, most,
		map[int]group{0: none, 1: all}, map[group]int{none: 0, all: 1},
		map[int]leads{0: {{from: none}}, 1: {{from: all, kind: anywhere}}},
	}
}

// refused tells whether a call has found no room: then it answers nothing, and has changed nothing.
func (w *world) refused(t *testing.T, what any, used, n int, e api.Errno) bool {
	t.Helper()
	if e != api.OK && (e != api.ErrFull || n != 0 || w.Used() != used) || w.Used() < used || w.Used() > w.most {
		t.Fatal(what, n, e, used, w.Used(), w.most)
	}
	return e != api.OK
}

// tookSet holds what a call has answered against the set that was to come.
func (w *world) tookSet(t *testing.T, what any, used, n int, e api.Errno, want group) {
	t.Helper()
	if w.refused(t, what, used, n, e) {
		return
	}
	old, is := w.sets[n]
	m, was := w.numbers[want]
	if is && old != want || was && m != n {
		t.Fatal(what, n, m, "not the node of these headers")
	}
	w.sets[n], w.numbers[want] = want, n
	w.relations[n] = leads{{from: want, kind: anywhere}}
}

// tookRelation notes what a call has answered.
func (w *world) tookRelation(t *testing.T, what any, used, n int, e api.Errno, want leads) {
	t.Helper()
	if !w.refused(t, what, used, n, e) {
		w.relations[n] = want
	}
}

// one of the numbers of a map.
func one[T any](l map[int]T, next func(int) int) int {
	keys := slices.Sorted(maps.Keys(l))
	return keys[next(len(keys))]
}

// span is a field, and a set of its numbers that is cut where its pieces are.
func span(next func(int) int) (int, []api.Span) {
	f := next(5)
	var l []api.Span
	for range 1 + next(2) {
		lo, hi := next(len(begins[f])), next(len(begins[f]))
		first, _ := piece(f, lo)
		_, last := piece(f, hi)
		l = append(l, api.Span{Lo: uint32(first), Hi: uint32(last)})
	}
	return f, l
}

// alone is a field, and a number that is a piece of its own.
func alone(next func(int) int) (rel.Field, uint64) {
	for {
		f := next(5)
		if lo, hi := piece(f, next(len(begins[f]))); lo == hi {
			return rel.Field(f), lo
		}
	}
}

// step makes one of the calls that answer a node, by numbers that are as good as any.
func (w *world) step(t *testing.T, next func(int) int) {
	t.Helper()
	a, b := one(w.sets, next), one(w.sets, next)
	r, q := one(w.relations, next), one(w.relations, next)
	ga, gb, used := w.sets[a], w.sets[b], w.Used()
	kind := next(12)
	what := []int{kind, a, b, r, q}
	switch kind {
	case 0:
		f, l := span(next)
		n, e := w.Numbers(rel.Field(f), l)
		w.tookSet(t, what, used, n, e, grouped(func(x box) bool {
			lo, _ := piece(f, x[f])
			return slices.ContainsFunc(l, func(s api.Span) bool { return uint64(s.Lo) <= lo && lo <= uint64(s.Hi) })
		}))
	case 1:
		p := []api.Prefix{{}, ten, {Addr: 0x0A000001, Bits: 32}, {Addr: 0xFFFFFFFF, Bits: 32}}[next(4)]
		n, e := w.Prefix(rel.Src, p)
		w.tookSet(t, what, used, n, e, grouped(func(x box) bool {
			lo, _ := piece(0, x[0])
			return lo>>(32-p.Bits) == uint64(p.Addr)>>(32-p.Bits)
		}))
	case 2:
		n, e := w.And(a, b)
		w.tookSet(t, what, used, n, e, grouped(func(x box) bool { return ga.has(x) && gb.has(x) }))
	case 3:
		n, e := w.Or(a, b)
		w.tookSet(t, what, used, n, e, grouped(func(x box) bool { return ga.has(x) || gb.has(x) }))
	case 4:
		n, e := w.Less(a, b)
		w.tookSet(t, what, used, n, e, grouped(func(x box) bool { return ga.has(x) && !gb.has(x) }))
	case 5:
		n, e := w.Not(a)
		w.tookSet(t, what, used, n, e, grouped(func(x box) bool { return !ga.has(x) }))
	case 6:
		n, e := w.Keep()
		w.tookRelation(t, what, used, n, e, leads{{from: w.sets[1]}})
	case 7:
		f, v := alone(next)
		n, e := w.Put(f, uint32(v))
		w.tookRelation(t, what, used, n, e, leads{{from: w.sets[1], kind: puts, field: f, value: v}})
	case 8:
		n, e := w.Where(r, a)
		w.tookRelation(t, what, used, n, e, w.relations[r].where(ga))
	case 9:
		n, e := w.Either(r, q)
		w.tookRelation(t, what, used, n, e, slices.Concat(w.relations[r], w.relations[q]))
	case 10:
		n, e := w.Image(r, a)
		w.tookSet(t, what, used, n, e, w.relations[r].image(ga))
	case 11:
		n, e := w.Preimage(r, a)
		w.tookSet(t, what, used, n, e, w.relations[r].preimage(ga))
	}
}

// told holds what is told of the sets and relations against what they should be.
func (w *world) told(t *testing.T, next func(int) int) {
	t.Helper()
	for n, g := range w.sets {
		if c, e := w.Count(n); c != g.count() || e != api.OK {
			t.Fatal("Count", n, c, g.count(), e)
		}
		i := slices.IndexFunc(allBoxes, g.has)
		h, e := w.Least(n)
		if i < 0 && (e != api.ErrNone || h != api.Header{}) || i >= 0 && (e != api.OK || h != allBoxes[i].least()) {
			t.Fatal("Least", n, h, e)
		}
		for range 30 {
			b := allBoxes[next(len(allBoxes))]
			just(t, w.Space, n, n, []api.Header{b.least(), b.greatest(), b.other()}, func(api.Header) bool { return g.has(b) })
		}
	}
	for n, r := range w.relations {
		for range 30 {
			from := allBoxes[next(len(allBoxes))].other()
			to := from
			if f, v := alone(next); next(2) == 0 {
				to = with(to, f, v)
			}
			for _, h := range []api.Header{to, allBoxes[next(len(allBoxes))].least()} {
				if is, e := w.Leads(n, from, h); is != r.leads(from, h) || e != api.OK {
					t.Fatal("Leads", n, from, h, is, e)
				}
			}
		}
	}
}

// P6.1 to P6.6: many calls one behind the other, with all room and with less.
func TestManyCalls(t *testing.T) {
	for seed := range 24 {
		for _, most := range []int{api.MaxNodes, 3000, 700, 100, 8} {
			next := numbers(uint64(seed))
			w := newWorld(t, most)
			for range 120 {
				w.step(t, next)
			}
			w.told(t, next)
		}
	}
}

// P6.5: what of relations and sets has to hold, of such as come one behind the other.
func TestThereAndBack(t *testing.T) {
	node := ok[int](t)
	for seed := range 8 {
		next := numbers(uint64(100 + seed))
		w := newWorld(t, api.MaxNodes)
		for range 60 {
			w.step(t, next)
		}
		for range 60 {
			a, b := one(w.sets, next), one(w.sets, next)
			r, q := one(w.relations, next), one(w.relations, next)
			f, v := alone(next)
			keep, put := node(w.Keep()), node(w.Put(f, uint32(v)))
			valued := node(w.Numbers(f, pairs(uint32(v), uint32(v))))
			image := node(w.Image(r, a))
			somewhere := node(w.Preimage(r, 1))
			for what, pair := range map[string][2]int{
				"Image by Keep":              {node(w.Image(keep, a)), a},
				"Preimage by Keep":           {node(w.Preimage(keep, a)), a},
				"Image of Or":                {node(w.Image(r, node(w.Or(a, b)))), node(w.Or(image, node(w.Image(r, b))))},
				"Image by Either":            {node(w.Image(node(w.Either(r, q)), a)), node(w.Or(image, node(w.Image(q, a))))},
				"there and back":             {node(w.Less(node(w.And(a, somewhere)), node(w.Preimage(r, image)))), 0},
				"Preimage of Or":             {node(w.Preimage(r, node(w.Or(a, b)))), node(w.Or(node(w.Preimage(r, a)), node(w.Preimage(r, b))))},
				"Image by Where":             {node(w.Image(node(w.Where(r, b)), a)), node(w.Image(r, node(w.And(a, b))))},
				"Preimage by Where":          {node(w.Preimage(node(w.Where(r, b)), a)), node(w.And(node(w.Preimage(r, a)), b))},
				"Image of Put":               {node(w.Less(node(w.Image(put, a)), valued)), 0},
				"Preimage of Image of Put":   {node(w.Less(a, node(w.Preimage(put, node(w.Image(put, a)))))), 0},
				"Put of what has the number": {node(w.Image(put, node(w.And(a, valued)))), node(w.And(a, valued))},
			} {
				if pair[0] != pair[1] {
					t.Fatal(what, pair, a, b, r, q, f, v)
				}
			}
			c, d := ok[api.Count](t)(w.Count(a)), ok[api.Count](t)(w.Count(node(w.Not(a))))
			lo, carry := bits.Add64(c.Lo, d.Lo, 0)
			if hi, _ := bits.Add64(c.Hi, d.Hi, carry); hi != 1<<40 || lo != 0 {
				t.Fatal("Count", c, d)
			}
		}
	}
}
