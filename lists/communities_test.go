package lists_test

import (
	"math"
	"math/rand"
	"slices"
	"testing"

	"waymark/lists"
)

// P9.3: the chapter's examples, and a few more.
func TestNormalKnown(t *testing.T) {
	for _, k := range [][2][]uint32{
		{nil, nil}, {{}, nil}, {{5, 1, 5}, {1, 5}}, {{7}, {7}}, {{0, 0, 0}, {0}}, {{1, 2, 3}, {1, 2, 3}}, {{3, 2, 1}, {1, 2, 3}}, {{2, 1, 2, 1}, {1, 2}},
		{{math.MaxUint32, 0, 1 << 31, 1<<31 - 1}, {0, 1<<31 - 1, 1 << 31, math.MaxUint32}}, {{65536, 1, 65537}, {1, 65536, 65537}}, {{10, 9, 100}, {9, 10, 100}},
	} {
		if form := lists.Normal(k[0]); !slices.Equal(form, k[1]) {
			t.Errorf("Normal(%v): %v", k[0], form)
		}
	}
}

// P9.3: of any two lists.
func TestJoinKnown(t *testing.T) {
	for _, k := range [][3][]uint32{
		{nil, nil, nil}, {{}, nil, nil}, {{3}, {1, 3}, {1, 3}}, {{3}, nil, {3}}, {nil, {3, 3}, {3}}, {{5, 1, 5}, {4, 1}, {1, 4, 5}}, {{1, 2}, {3, 4}, {1, 2, 3, 4}}, {{3, 4}, {1, 2}, {1, 2, 3, 4}},
		{{1, 1}, {1}, {1}}, {{math.MaxUint32}, {0}, {0, math.MaxUint32}},
	} {
		if form := lists.Join(k[0], k[1]); !slices.Equal(form, k[2]) {
			t.Errorf("Join(%v, %v): %v", k[0], k[1], form)
		}
	}
}

// P9.3, P9.5: all sets, in several orders: their form, its form, and the form of two together.
func TestForms(t *testing.T) {
	r := rand.New(rand.NewSource(9))
	for one := range 1 << len(communities) {
		form := formed(one)
		if got := lists.Normal(scrambled(r, one)); !slices.Equal(got, form) || !slices.Equal(lists.Normal(got), form) {
			t.Errorf("%v: %v", form, got)
		}
		for two := range 1 << len(communities) {
			a, b := scrambled(r, one), scrambled(r, two)
			want := formed(one | two)
			got := lists.Join(a, b)
			if !slices.Equal(got, want) || !slices.Equal(lists.Join(b, a), want) || !slices.Equal(lists.Join(lists.Normal(a), lists.Normal(b)), want) {
				t.Errorf("Join(%v, %v): %v", a, b, got)
			}
			if !slices.Equal(lists.Join(got, a), want) || !slices.Equal(lists.Join(b, got), want) {
				t.Errorf("Join(%v, %v), and one of them: more", a, b)
			}
		}
	}
}

// P9.3: each order of a few, each of them up to twice.
func TestFormsTurned(t *testing.T) {
	var put func(list []uint32, left []int)
	put = func(list []uint32, left []int) {
		var want []uint32
		for i, n := range left {
			if n < 2 {
				want = append(want, uint32(i))
			}
		}
		if got := lists.Normal(list); !slices.Equal(got, want) {
			t.Fatalf("Normal(%v): %v", list, got)
		}
		for i := range left {
			if left[i] > 0 {
				left[i]--
				put(append(list, uint32(i)), left)
				left[i]++
			}
		}
	}
	put(nil, []int{2, 2, 2, 2})
}

// P9.3: long lists.
func TestLongForms(t *testing.T) {
	const many = 1 << 20
	var list, want []uint32
	for i := range uint32(many) {
		// An odd factor takes each number to another one.
		list = append(list, i*0x9E3779B1%many, i%3)
		want = append(want, i)
	}
	if got := lists.Normal(list); !slices.Equal(got, want) {
		t.Error("Normal")
	}
	if got := lists.Join(list[:many], list[many:]); !slices.Equal(got, want) {
		t.Error("Join")
	}
}

// R3: what is handed in is read to its length alone, and not changed, the room behind its end neither.
func TestFormsOfWhatHasRoom(t *testing.T) {
	a, b := []uint32{5, 1, 5, 8, 9}, []uint32{4, 1, 7, 7}
	if got := lists.Normal(a[:3]); !slices.Equal(got, []uint32{1, 5}) {
		t.Error(got)
	}
	if got := lists.Join(a[:3], b[:2]); !slices.Equal(got, []uint32{1, 4, 5}) {
		t.Error(got)
	}
	if got := lists.Join(a[:2], a[3:4]); !slices.Equal(got, []uint32{1, 5, 8}) {
		t.Error(got)
	}
	if !slices.Equal(a, []uint32{5, 1, 5, 8, 9}) || !slices.Equal(b, []uint32{4, 1, 7, 7}) {
		t.Error(a, b)
	}
}

// R3: what is handed out is the caller's own, its spare room too.
func TestFormsHandedOut(t *testing.T) {
	spoil := func(list []uint32) {
		list = list[:cap(list)]
		for i := range list {
			list[i] = 77
		}
	}
	for set := range 1 << len(communities) {
		form := formed(set)
		room := append(formed(set), 1, 2, 3)[:len(form)]
		// Lists that are their form as they stand must be copied, too; and of two, of which one adds nothing, either.
		for _, answer := range []func() []uint32{
			func() []uint32 { return lists.Normal(room) },
			func() []uint32 { return lists.Join(room, nil) },
			func() []uint32 { return lists.Join(nil, room) },
			func() []uint32 { return lists.Join(room, room) },
		} {
			before := answer()
			spoil(answer())
			if !slices.Equal(room, form) || !slices.Equal(before, form) || !slices.Equal(answer(), form) || !slices.Equal(room[:len(form)+3][len(form):], []uint32{1, 2, 3}) {
				t.Errorf("%v: %v, %v", form, room, before)
			}
		}
	}
}
