package spans

import (
	"math"
	"math/bits"
	"slices"
	"testing"
	"time"

	"waymark/api"
)

// top is the greatest number.
const top = math.MaxUint32

// width is how many numbers side by side the sets of most tests are made of.
const width = 6

// bases are where these numbers begin: at both ends of all numbers, and between.
func bases() []uint32 {
	return []uint32{0, 1, 1000, 1<<31 - 3, top - width, top - width + 1}
}

// set makes a list of Los and His.
func set(ends ...uint32) []api.Span {
	var l []api.Span
	for i := 0; i+1 < len(ends); i += 2 {
		l = append(l, api.Span{Lo: ends[i], Hi: ends[i+1]})
	}
	return l
}

// members are the numbers from base on that a list has, number by number: a bit each.
func members(l []api.Span, base uint32) uint {
	var m uint
	for i := range uint32(width) {
		for _, s := range l {
			if s.Lo <= base+i && base+i <= s.Hi {
				m |= 1 << i
			}
		}
	}
	return m
}

// formed is the form of a set of numbers from base on.
func formed(m uint, base uint32) []api.Span {
	var l []api.Span
	for i := range uint32(width) {
		here, before := m>>i&1 == 1, i > 0 && m>>(i-1)&1 == 1
		if here && !before {
			l = append(l, api.Span{Lo: base + i, Hi: base + i})
		} else if here {
			l[len(l)-1].Hi = base + i
		}
	}
	return l
}

// scrambled is the same set as formed in no form: number by number, falling, each twice, with empty spans between.
func scrambled(m uint, base uint32) []api.Span {
	l := set(base+1, base)
	for i := width - 1; i >= 0; i-- {
		if x := base + uint32(i); m>>i&1 == 1 {
			l = append(l, set(x, x, top, 0, x, x)...)
		}
	}
	return append(l, set(base+width-1, base)...)
}

// allSpans are all spans of the numbers from base on, empty ones too.
func allSpans(base uint32) []api.Span {
	var l []api.Span
	for lo := range uint32(width) {
		for hi := range uint32(width) {
			l = append(l, api.Span{Lo: base + lo, Hi: base + hi})
		}
	}
	return l
}

// lists goes through all lists of up to most spans of the numbers from base on.
func lists(base uint32, most int, visit func([]api.Span)) {
	all := allSpans(base)
	var longer func(l []api.Span)
	longer = func(l []api.Span) {
		visit(l)
		if len(l) == most {
			return
		}
		for _, s := range all {
			longer(append(l, s))
		}
	}
	longer(nil)
}

// odd are the odd numbers below most, each a span of its own, falling.
func odd(most uint32) []api.Span {
	var l []api.Span
	for x := uint32(1); x < most; x += 2 {
		l = append(l, api.Span{Lo: x, Hi: x})
	}
	slices.Reverse(l)
	return l
}

// P2.1: the form of known lists: empty spans, spans that touch, both ends of all numbers.
func TestFormKnown(t *testing.T) {
	known := []struct{ list, form []api.Span }{
		{nil, nil},
		{[]api.Span{}, nil},
		{set(3, 1), nil},
		{set(1, 0), nil},
		{set(top, 0), nil},
		{set(top, top-1, 3, 1), nil},
		{set(5, 9, 1, 2, 3, 4, 8, 12), set(1, 12)},
		{set(0, 0), set(0, 0)},
		{set(top, top), set(top, top)},
		{set(0, top), set(0, top)},
		{set(0, top, 5, 9, top, top, 0, 0), set(0, top)},
		{set(top, top, 0, 0), set(0, 0, top, top)},
		{set(1, top, 0, 0), set(0, top)},
		{set(top, top, 0, top-1), set(0, top)},
		{set(top, top, 0, top-2), set(0, top-2, top, top)},
		{set(1, 2, 4, 5), set(1, 2, 4, 5)},
		{set(1, 2, 3, 5), set(1, 5)},
		{set(1, 9, 2, 3, 5, 6), set(1, 9)},
		{set(1, 9, 2, 3, 10, 10), set(1, 10)},
		{set(1, 9, 2, 3, 11, 11), set(1, 9, 11, 11)},
		{set(4, 6, 9, 2, 6, 8), set(4, 8)},
		{set(7, 7, 7, 7), set(7, 7)},
		{set(1<<31, top, 0, 1<<31-1), set(0, top)},
	}
	for _, k := range known {
		if l := Form(k.list); !slices.Equal(l, k.form) {
			t.Errorf("Form(%v): %v, not %v", k.list, l, k.form)
		}
	}
}

// P2.1: the form of all short lists.
func TestForm(t *testing.T) {
	for _, base := range []uint32{0, top - width + 1} {
		lists(base, 3, func(l []api.Span) {
			if want := formed(members(l, base), base); !slices.Equal(Form(l), want) {
				t.Errorf("Form(%v): %v, not %v", l, Form(l), want)
			}
		})
	}
	for _, base := range bases() {
		for m := range uint(1 << width) {
			for _, l := range [][]api.Span{formed(m, base), scrambled(m, base)} {
				if want := formed(m, base); !slices.Equal(Form(l), want) {
					t.Errorf("Form(%v): %v, not %v", l, Form(l), want)
				}
			}
		}
	}
}

// P2.1: what is in a set, how many there are, and which is the least.
func TestHasCountLeast(t *testing.T) {
	look := func(l []api.Span, base uint32) {
		m := members(l, base)
		for i := range uint32(width) {
			if has := Has(l, base+i); has != (m>>i&1 == 1) {
				t.Errorf("Has(%v, %d): %v", l, base+i, has)
			}
		}
		if base > 0 && Has(l, base-1) || base+width > base && Has(l, base+width) {
			t.Errorf("Has(%v): true beside it", l)
		}
		if n := Count(l); n != uint64(bits.OnesCount(m)) {
			t.Errorf("Count(%v): %d", l, n)
		}
		x, ok := Least(l)
		if want := base + uint32(bits.TrailingZeros(m)); ok != (m != 0) || ok && x != want || !ok && x != 0 {
			t.Errorf("Least(%v): %d %v", l, x, ok)
		}
	}
	for _, base := range bases() {
		lists(base, 2, func(l []api.Span) { look(l, base) })
		for m := range uint(1 << width) {
			look(scrambled(m, base), base)
		}
	}
}

// P2.1: the same at the edges of all numbers, and of no set.
func TestHasCountLeastKnown(t *testing.T) {
	known := []struct {
		list  []api.Span
		count uint64
		least uint32
		found bool
	}{
		{nil, 0, 0, false},
		{[]api.Span{}, 0, 0, false},
		{set(9, 8), 0, 0, false},
		{set(top, 0, 7, 6), 0, 0, false},
		{set(0, 0), 1, 0, true},
		{set(top, top), 1, top, true},
		{set(9, 8, top, top), 1, top, true},
		{set(0, top), 1 << 32, 0, true},
		{set(1, top, 0, 0), 1 << 32, 0, true},
		{set(0, top, 0, top, 4, 3), 1 << 32, 0, true},
		{set(1, top), 1<<32 - 1, 1, true},
		{set(0, top-1), 1<<32 - 1, 0, true},
		{set(50, 60, 7, 6, 40, 55, 70, 70), 22, 40, true},
		{set(0, 0, top, top), 2, 0, true},
	}
	for _, k := range known {
		if n := Count(k.list); n != k.count {
			t.Errorf("Count(%v): %d", k.list, n)
		}
		if x, ok := Least(k.list); x != k.least || ok != k.found {
			t.Errorf("Least(%v): %d %v", k.list, x, ok)
		}
	}
	for _, x := range []uint32{0, 1, 1 << 31, top - 1, top} {
		if !Has(set(0, top), x) || Has(nil, x) || Has(set(top, 0), x) || Has(set(x, x), x+1) || !Has(set(3, 2, x, x), x) {
			t.Errorf("Has: %d", x)
		}
	}
}

// P2.1: sets are the same just if their forms are the same spans (P2.6).
func TestSame(t *testing.T) {
	for _, base := range bases() {
		for m := range uint(1 << width) {
			for n := range uint(1 << width) {
				a, b := scrambled(m, base), formed(n, base)
				if Same(a, b) != (m == n) || Same(b, a) != (m == n) || slices.Equal(Form(a), Form(b)) != (m == n) {
					t.Errorf("Same(%v, %v): %v", a, b, Same(a, b))
				}
			}
		}
	}
	if !Same(nil, []api.Span{}) || !Same(nil, set(top, 0)) || Same(nil, set(0, 0)) || Same(set(0, top), set(0, top-1)) {
		t.Error("Same: no set, all numbers")
	}
	if !Same(set(0, top), set(1<<31, top, 0, 1<<31)) || !Same(set(1, 2, 3, 4), set(1, 4)) || Same(set(1, 2, 4, 5), set(1, 5)) {
		t.Error("Same: spans that touch")
	}
}

// P2.2: the numbers, rising, each once.
func TestEach(t *testing.T) {
	for _, base := range bases() {
		for m := range uint(1 << width) {
			var want []uint32
			for i := range uint32(width) {
				if m>>i&1 == 1 {
					want = append(want, base+i)
				}
			}
			for _, l := range [][]api.Span{formed(m, base), scrambled(m, base)} {
				if got := slices.Collect(Each(l)); !slices.Equal(got, want) {
					t.Errorf("Each(%v): %v", l, got)
				}
			}
		}
	}
	for range Each(nil) {
		t.Error("Each: a number of no set")
	}
	if got := slices.Collect(Each(set(top, top, 3, 1, 0, 1))); !slices.Equal(got, []uint32{0, 1, top}) {
		t.Errorf("Each: %v", got)
	}
}

// P2.2 and R8: it may be left anywhere, gone over again, while another round is on too, and tells what was there at the call.
func TestEachAgain(t *testing.T) {
	l := set(5, 6, 1, 2)
	each := Each(l)
	l[0], l[1] = api.Span{Lo: 100, Hi: 200}, api.Span{}
	want := []uint32{1, 2, 5, 6}
	for leave := range want {
		var got []uint32
		for x := range each {
			got = append(got, x)
			if len(got) > leave {
				break
			}
			if inner := slices.Collect(each); !slices.Equal(inner, want) {
				t.Errorf("a round within: %v", inner)
			}
		}
		if !slices.Equal(got, want[:leave+1]) {
			t.Errorf("left behind %d: %v", leave, got)
		}
	}
	// All numbers at once are not made: the first few come from a set of all.
	n := 0
	for x := range Each(set(0, top)) {
		if n++; x != uint32(n-1) {
			t.Errorf("number %d: %d", n, x)
		}
		if n == 1000 {
			break
		}
	}
}

// R3: what is handed in is not changed nor read beyond its length, and what is handed out is the caller's own.
func TestHandedInAndOut(t *testing.T) {
	calls := []func(a, b []api.Span) []api.Span{
		func(a, _ []api.Span) []api.Span { return Form(a) },
		Or, And, Less,
		func(a, _ []api.Span) []api.Span { return Not(a, 30) },
		func(a, b []api.Span) []api.Span { l, _ := Pieces(30, a, b); return l },
		func(a, _ []api.Span) []api.Span { l, _ := Parse(Text(a)); return l },
		func(a, b []api.Span) []api.Span {
			Has(a, 3)
			Count(a)
			Least(a)
			Same(a, b)
			for range Each(a) {
			}
			return nil
		},
	}
	for i, call := range calls {
		for _, first := range [][]api.Span{set(8, 9, 3, 1, 1, 4), set(1, 4, 8, 9), set(7, 7)} {
			a, b := append(first, set(2, 12, 20, 21)...), set(6, 8, 3, 1, 2, 2, 1, 25)
			wasA, wasB := slices.Clone(a), slices.Clone(b)
			l := call(a[:len(first)], b[:3])
			want := slices.Clone(l)
			for k := range l[:cap(l)] {
				l[:cap(l)][k] = api.Span{Lo: 77, Hi: 78}
			}
			if !slices.Equal(a, wasA) || !slices.Equal(b, wasB) {
				t.Errorf("call %d: changed to %v %v", i, a, b)
			}
			if again := call(slices.Clip(wasA[:len(first)]), slices.Clip(wasB[:3])); !slices.Equal(again, want) {
				t.Errorf("call %d: then %v, not %v", i, again, want)
			}
		}
	}
}

// Long lists take no more than their order asks for.
func TestLongLists(t *testing.T) {
	const n = 200000
	start := time.Now()
	odds := odd(2 * n)
	evens := Not(odds, 2*n-1)
	if Count(odds) != n || Count(evens) != n || len(evens) != n {
		t.Errorf("%d and %d numbers", Count(odds), Count(evens))
	}
	if both := And(odds, evens); len(both) != 0 {
		t.Errorf("And: %d spans", len(both))
	}
	if all := Or(odds, evens); !slices.Equal(all, set(0, 2*n-1)) {
		t.Errorf("Or: %d spans", len(all))
	}
	if l, e := Parse(Text(odds)); e != api.OK || !Same(l, odds) || len(l) != n {
		t.Errorf("Parse: %d spans, %v", len(l), e)
	}
	if took := time.Since(start); took > 20*time.Second {
		t.Errorf("took %v", took)
	}
}
