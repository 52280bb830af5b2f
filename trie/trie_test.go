package trie_test

import (
	"fmt"
	"iter"
	"math"
	"slices"
	"testing"

	"waymark/api"
	"waymark/trie"
)

// pair is a prefix and what a table has for it.
type pair struct {
	prefix api.Prefix
	value  int
}

// plain is a table as the document's words have it: gone through from end to end at each question.
type plain map[api.Prefix]int

// in tells whether an address is in a prefix, reckoned by dividing.
func in(a api.Addr, p api.Prefix) bool {
	size := uint64(1) << (32 - p.Bits)
	return uint64(a)/size == uint64(p.Addr)/size
}

// those are the pairs that are wanted, in order.
func (t plain) those(wanted func(api.Prefix) bool) []pair {
	var list []pair
	for p, v := range t {
		if wanted(p) {
			list = append(list, pair{p, v})
		}
	}
	slices.SortFunc(list, func(x, y pair) int {
		if x.prefix.Addr != y.prefix.Addr {
			return int(int64(x.prefix.Addr) - int64(y.prefix.Addr))
		}
		return x.prefix.Bits - y.prefix.Bits
	})
	return list
}

func (t plain) all() []pair { return t.those(func(api.Prefix) bool { return true }) }

func (t plain) over(a api.Addr) []pair {
	list := t.those(func(p api.Prefix) bool { return in(a, p) })
	slices.SortFunc(list, func(x, y pair) int { return x.prefix.Bits - y.prefix.Bits })
	return list
}

func (t plain) within(q api.Prefix) []pair {
	return t.those(func(p api.Prefix) bool { return p.Bits >= q.Bits && in(p.Addr, q) })
}

// heard is what an iterator tells.
func heard(seq iter.Seq2[api.Prefix, int]) []pair {
	var list []pair
	for p, v := range seq {
		list = append(list, pair{p, v})
	}
	return list
}

// small are all prefixes of the least so many addresses, or of as many equal parts of the whole space.
func small(bits int, whole bool) []api.Prefix {
	from := 32 - bits
	if whole {
		from = 0
	}
	var list []api.Prefix
	for more := range bits + 1 {
		for i := range 1 << more {
			b := from + more
			list = append(list, api.Prefix{Addr: api.Addr(uint64(i) << (32 - b)), Bits: b})
		}
	}
	return list
}

// edges are the first and the last addresses of prefixes, and those beside them.
func edges(l []api.Prefix) []api.Addr {
	var list []api.Addr
	for _, p := range l {
		last := api.Addr(uint64(p.Addr) + uint64(1)<<(32-p.Bits) - 1)
		list = append(list, p.Addr-1, p.Addr, last, last+1)
	}
	slices.Sort(list)
	return slices.Compact(list)
}

// same holds a table against a plain one, at all the prefixes and addresses.
func same(t *testing.T, what any, got *trie.Table[int], want plain, l []api.Prefix) {
	t.Helper()
	if got.Len() != len(want) || !slices.Equal(heard(got.All()), want.all()) {
		t.Fatalf("%v: %d %v, not %v", what, got.Len(), heard(got.All()), want.all())
	}
	for _, p := range l {
		v, is := got.At(p)
		if w, there := want[p]; v != w || is != there {
			t.Fatalf("%v: At(%v): %d %t", what, p, v, is)
		}
		if list := heard(got.Within(p)); !slices.Equal(list, want.within(p)) {
			t.Fatalf("%v: Within(%v): %v, not %v", what, p, list, want.within(p))
		}
	}
	for _, a := range edges(l) {
		over := want.over(a)
		if list := heard(got.Over(a)); !slices.Equal(list, over) {
			t.Fatalf("%v: Over(%08x): %v, not %v", what, a, list, over)
		}
		var last pair
		if len(over) > 0 {
			last = over[len(over)-1]
		}
		p, v, is := got.Longest(a)
		if (pair{p, v}) != last || is != (len(over) > 0) {
			t.Fatalf("%v: Longest(%08x): %v %d %t, not %v", what, a, p, v, is, last)
		}
	}
}

// filled is a table, and a plain one, of those prefixes whose bit is set; the values begin at 1, so that none is the zero value.
func filled(l []api.Prefix, set int) (*trie.Table[int], plain) {
	got, want := trie.New[int](), plain{}
	for i, p := range l {
		if set>>i&1 != 0 {
			got.Put(p, i+1)
			want[p] = i + 1
		}
	}
	return got, want
}

// P4.1, P4.2, P4.4: the chapter's first example.
func TestExample(t *testing.T) {
	got := trie.New[int]()
	ten, sub, any := api.Prefix{Addr: 0x0A000000, Bits: 8}, api.Prefix{Addr: 0x0A010000, Bits: 16}, api.Prefix{}
	for i, p := range []api.Prefix{ten, sub, any} {
		if e := got.Put(p, i+1); e != api.OK {
			t.Errorf("Put(%v): %v", p, e)
		}
	}
	for a, want := range map[api.Addr]pair{0x0A010203: {sub, 2}, 0x0A090909: {ten, 1}, 0x09090909: {any, 3}} {
		if p, v, is := got.Longest(a); (pair{p, v}) != want || !is {
			t.Errorf("Longest(%08x): %v %d %t", a, p, v, is)
		}
	}
	if l := heard(got.Over(0x0A010203)); !slices.Equal(l, []pair{{any, 3}, {ten, 1}, {sub, 2}}) {
		t.Error(l)
	}
	if l := heard(got.Within(ten)); !slices.Equal(l, []pair{{ten, 1}, {sub, 2}}) {
		t.Error(l)
	}
	if l := heard(got.All()); !slices.Equal(l, []pair{{any, 3}, {ten, 1}, {sub, 2}}) {
		t.Error(l)
	}
}

// P4.1, P4.2, P4.4: all tables of all prefixes of four addresses, at both ends of the bits.
func TestAllSmallTables(t *testing.T) {
	for _, whole := range []bool{false, true} {
		l := small(2, whole)
		for set := range 1 << len(l) {
			got, want := filled(l, set)
			same(t, set, got, want, append(small(3, whole), api.Prefix{}, api.Prefix{Addr: 0x80000000, Bits: 1}))
		}
	}
}

// P4.5: the order of the puts does not tell, nor does what is dropped again or put over.
func TestAgain(t *testing.T) {
	for _, whole := range []bool{false, true} {
		l := small(2, whole)
		for set := range 1 << len(l) {
			backward, want := trie.New[int](), plain{}
			for i, p := range slices.Backward(l) {
				if set>>i&1 != 0 {
					backward.Put(p, -1)
					backward.Put(p, i+1)
					want[p] = i + 1
				}
			}
			same(t, set, backward, want, l)
			for _, p := range l {
				if _, there := want[p]; !there {
					if backward.Put(p, 99) != api.OK || backward.Drop(p) != api.OK {
						t.Fatalf("%v is not put and dropped", p)
					}
				}
			}
			same(t, set, backward, want, l)
		}
	}
}

// P4.1: whatever is dropped out of a table, the rest stays.
func TestDrop(t *testing.T) {
	for _, whole := range []bool{false, true} {
		l := small(2, whole)
		all := 1<<len(l) - 1
		for set := range 1 << len(l) {
			got, _ := filled(l, all)
			for i, p := range l {
				if set>>i&1 == 0 {
					if e := got.Drop(p); e != api.OK {
						t.Fatalf("Drop(%v): %v", p, e)
					}
				}
			}
			_, want := filled(l, set)
			same(t, set, got, want, l)
		}
	}
}

// P4.1, P4.2: a long run of puts and drops of prefixes of all lengths.
func TestLongRun(t *testing.T) {
	got, want := trie.New[int](), plain{}
	state := uint64(1)
	draw := func(below uint64) uint64 {
		state = state*6364136223846793005 + 1442695040888963407
		return state >> 33 % below
	}
	var l []api.Prefix
	for bits := range 33 {
		for range 12 {
			// Few bits are drawn, so that many prefixes are in one another, or part late.
			a := uint64(draw(4)<<30 | draw(4)<<22 | draw(4)<<12 | draw(8))
			l = append(l, api.Prefix{Addr: api.Addr(a >> (32 - bits) << (32 - bits)), Bits: bits})
		}
	}
	for i := range 4000 {
		p := l[draw(uint64(len(l)))]
		if _, there := want[p]; there && draw(2) == 0 {
			if e := got.Drop(p); e != api.OK {
				t.Fatalf("Drop(%v): %v", p, e)
			}
			delete(want, p)
		} else {
			if e := got.Put(p, i); e != api.OK {
				t.Fatalf("Put(%v): %v", p, e)
			}
			want[p] = i
		}
		if i%400 == 0 {
			same(t, i, got, want, l)
		}
	}
	for p := range want {
		got.Drop(p)
	}
	same(t, "dropped", got, plain{}, l)
}

// P4.1: all hosts of many: none is lost, and none is told twice.
func TestManyHosts(t *testing.T) {
	got := trie.New[int]()
	const hosts = 1 << 14
	for i := range hosts {
		// An odd factor leads through all of them, in another order.
		n := i * 40503 % hosts
		got.Put(api.Prefix{Addr: api.Addr(0x0A000000 + n), Bits: 32}, n)
	}
	if got.Len() != hosts {
		t.Fatal(got.Len())
	}
	next := 0
	for p, v := range got.All() {
		if v != next || p != (api.Prefix{Addr: api.Addr(0x0A000000 + next), Bits: 32}) {
			t.Fatal(p, v, next)
		}
		next++
	}
	if next != hosts {
		t.Error(next)
	}
}

// P4.1: what may not be is refused, in the errors' order, and changes nothing.
func TestRefused(t *testing.T) {
	ten := api.Prefix{Addr: 0x0A000000, Bits: 8}
	wrong := []struct {
		prefix api.Prefix
		e      api.Errno
	}{
		{api.Prefix{Addr: 0x0A000001, Bits: 8}, api.ErrMask}, {api.Prefix{Addr: 1, Bits: 0}, api.ErrMask}, {api.Prefix{Addr: 1, Bits: 31}, api.ErrMask},
		{api.Prefix{Bits: 33}, api.ErrArg}, {api.Prefix{Bits: -1}, api.ErrArg}, {api.Prefix{Addr: 0x0A000001, Bits: 33}, api.ErrArg},
		{api.Prefix{Addr: 0x0A000001, Bits: -8}, api.ErrArg}, {api.Prefix{Bits: math.MaxInt}, api.ErrArg}, {api.Prefix{Bits: math.MinInt}, api.ErrArg},
	}
	var none *trie.Table[int]
	got, want := trie.New[int](), plain{ten: 7}
	got.Put(ten, 7)
	for _, w := range wrong {
		if e := got.Put(w.prefix, 1); e != w.e {
			t.Errorf("Put(%v): %v", w.prefix, e)
		}
		if e := got.Drop(w.prefix); e != w.e {
			t.Errorf("Drop(%v): %v", w.prefix, e)
		}
		if put, drop := none.Put(w.prefix, 1), none.Drop(w.prefix); put != api.ErrNil || drop != api.ErrNil {
			t.Errorf("of a nil table: Put(%v): %v, Drop: %v", w.prefix, put, drop)
		}
		if v, is := got.At(w.prefix); v != 0 || is {
			t.Errorf("At(%v): %d %t", w.prefix, v, is)
		}
		if l := heard(got.Within(w.prefix)); len(l) != 0 {
			t.Errorf("Within(%v): %v", w.prefix, l)
		}
	}
	for _, p := range []api.Prefix{{}, {Bits: 8}, {Addr: 0x0A000000, Bits: 7}, {Addr: 0x0A000000, Bits: 9}, {Addr: 0x0B000000, Bits: 8}, {Addr: 0x0A000000, Bits: 32}} {
		if e := got.Drop(p); e != api.ErrNone {
			t.Errorf("Drop(%v): %v", p, e)
		}
		if e := trie.New[int]().Drop(p); e != api.ErrNone {
			t.Errorf("of an empty table: Drop(%v): %v", p, e)
		}
	}
	same(t, "refused", got, want, append(small(2, true), ten))
	if got.Drop(ten) != api.OK || got.Drop(ten) != api.ErrNone {
		t.Error("dropped twice")
	}
}

// P4.1, R1: a nil table, and one that New did not make.
func TestNoTable(t *testing.T) {
	var none *trie.Table[int]
	if e := none.Put(api.Prefix{}, 1); e != api.ErrNil {
		t.Error(e)
	}
	if e := none.Drop(api.Prefix{}); e != api.ErrNil {
		t.Error(e)
	}
	if none.Copy() != nil {
		t.Error("a copy of none")
	}
	same(t, "nil", none, plain{}, small(2, true))

	made := new(trie.Table[int])
	made.Drop(api.Prefix{})
	made.Copy().Put(api.Prefix{}, 1)
	made.Put(api.Prefix{}, 1)
	// Two tables that share a map and no paths: nothing is promised of them, but that no call panics.
	twin := *made
	twin.Put(api.Prefix{Bits: 8}, 2)
	twin.Put(api.Prefix{Bits: 16}, 2)
	made.Drop(api.Prefix{Bits: 16})
	made.Drop(api.Prefix{Bits: 8})
	twin.Drop(api.Prefix{Bits: 16})
	heard(twin.All())
	heard(made.All())
}

// P4.1: the zero value is a value like others, and a table may be of any type.
func TestAnyValues(t *testing.T) {
	zeros := trie.New[int]()
	zeros.Put(api.Prefix{Bits: 8}, 0)
	if v, is := zeros.At(api.Prefix{Bits: 8}); v != 0 || !is || zeros.Len() != 1 || len(heard(zeros.All())) != 1 {
		t.Error("a 0 is no value")
	}
	if p, v, is := zeros.Longest(1); p != (api.Prefix{Bits: 8}) || v != 0 || !is {
		t.Error(p, v, is)
	}
	empty := trie.New[struct{}]()
	empty.Put(api.Prefix{}, struct{}{})
	if _, is := empty.At(api.Prefix{}); !is {
		t.Error("an empty struct is no value")
	}
	calls := trie.New[func() int]()
	calls.Put(api.Prefix{Bits: 1}, nil)
	calls.Put(api.Prefix{}, func() int { return 5 })
	if _, f, is := calls.Longest(math.MaxUint32); !is || f() != 5 {
		t.Error("no function")
	}
	if _, f, is := calls.Longest(0); !is || f != nil {
		t.Error("no nil")
	}
	lists := trie.New[[]int]()
	l := []int{1, 2}
	lists.Put(api.Prefix{}, l)
	c := lists.Copy()
	l[0] = 3
	if v, _ := c.At(api.Prefix{}); !slices.Equal(v, []int{3, 2}) {
		t.Error("a value is not copied as it is", v)
	}
}

// P4.1: a copy is the same, and goes its own way; so do two tables (R2).
func TestCopy(t *testing.T) {
	l := small(2, false)
	for set := range 1 << len(l) {
		first, want := filled(l, set)
		second, _ := filled(l, set)
		copied := first.Copy()
		same(t, set, copied, want, l)
		for i, p := range l {
			if i%2 == 0 {
				first.Put(p, 50)
				copied.Drop(p)
			} else {
				first.Drop(p)
				copied.Put(p, 60)
			}
		}
		ofFirst, ofCopy := plain{}, plain{}
		for i, p := range l {
			if i%2 == 0 {
				ofFirst[p] = 50
			} else {
				ofCopy[p] = 60
			}
		}
		same(t, set, first, ofFirst, l)
		same(t, set, copied, ofCopy, l)
		same(t, set, second, want, l)
	}
}

// ways are the three kinds of iterators over a table, and what they tell of a plain one.
func ways(got *trie.Table[int], want plain) map[string]struct {
	seq  iter.Seq2[api.Prefix, int]
	list []pair
} {
	type way = struct {
		seq  iter.Seq2[api.Prefix, int]
		list []pair
	}
	return map[string]way{
		"All":    {got.All(), want.all()},
		"Over":   {got.Over(1), want.over(1)},
		"Within": {got.Within(api.Prefix{Bits: 30}), want.within(api.Prefix{Bits: 30})},
	}
}

// P4.2, R8: an iterator tells what was there when it was given, whatever is put, dropped or given another value since.
func TestAsItWas(t *testing.T) {
	l := small(2, false)
	for set := range 1 << len(l) {
		for change := range l {
			got, want := filled(l, set)
			given := ways(got, want)
			if got.Drop(l[change]) != api.OK {
				got.Put(l[change], 99)
			} else if change%2 == 0 {
				got.Put(l[change], 98)
			}
			for name, w := range given {
				if list := heard(w.seq); !slices.Equal(list, w.list) {
					t.Fatalf("%d, %d: %s: %v, not %v", set, change, name, list, w.list)
				}
			}
		}
	}
}

// R8: an iterator may be left anywhere, gone over again, while another round of it is on, and while the table is changed.
func TestIterators(t *testing.T) {
	l := small(2, false)
	got, want := filled(l, 1<<len(l)-1)
	for name, w := range ways(got, want) {
		for stop := range len(w.list) + 1 {
			var list []pair
			w.seq(func(p api.Prefix, v int) bool {
				if len(list) > stop {
					t.Fatalf("%s goes on behind %d", name, stop)
				}
				list = append(list, pair{p, v})
				return len(list) <= stop
			})
			if !slices.Equal(list, w.list[:min(stop+1, len(w.list))]) {
				t.Errorf("%s, left at %d: %v", name, stop, list)
			}
		}
		for p := range w.seq {
			got.Drop(p)
			got.Put(api.Prefix{Addr: p.Addr, Bits: 32}, 77)
			if list := heard(w.seq); !slices.Equal(list, w.list) {
				t.Errorf("%s, at %v: %v", name, p, list)
			}
		}
	}
}

// P4.2: at the ends of the space, and with a prefix that only joins others.
func TestEnds(t *testing.T) {
	last := api.Prefix{Addr: math.MaxUint32, Bits: 32}
	first := api.Prefix{Bits: 32}
	for _, l := range [][]api.Prefix{{last}, {first}, {first, last}, {last, first}} {
		got, want := trie.New[int](), plain{}
		for i, p := range l {
			got.Put(p, i+1)
			want[p] = i + 1
		}
		same(t, fmt.Sprint(l), got, want, append(small(1, true), small(1, false)...))
		if list := heard(got.Within(api.Prefix{})); !slices.Equal(list, want.all()) {
			t.Error(l, list)
		}
	}
}
