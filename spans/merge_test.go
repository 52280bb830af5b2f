package spans

import (
	"slices"
	"testing"
	"time"

	"waymark/api"
)

// P2.1: known sets in either, in both, in one of them alone, and not in one.
func TestMergedKnown(t *testing.T) {
	known := []struct{ a, b, or, and, less []api.Span }{
		{nil, nil, nil, nil, nil},
		{set(3, 1), set(top, 0), nil, nil, nil},
		{set(1, 5), nil, set(1, 5), nil, set(1, 5)},
		{nil, set(1, 5), set(1, 5), nil, nil},
		{set(1, 5, 8, 9), set(4, 8), set(1, 9), set(4, 5, 8, 8), set(1, 3, 9, 9)},
		{set(1, 9), set(3, 4), set(1, 9), set(3, 4), set(1, 2, 5, 9)},
		{set(1, 4), set(5, 9), set(1, 9), nil, set(1, 4)},
		{set(1, 4), set(6, 9), set(1, 4, 6, 9), nil, set(1, 4)},
		{set(0, top), set(0, top), set(0, top), set(0, top), nil},
		{set(0, top), set(0, 0, top, top), set(0, top), set(0, 0, top, top), set(1, top-1)},
		{set(0, 0), set(top, top), set(0, 0, top, top), nil, set(0, 0)},
		{set(top, top), set(0, top), set(0, top), set(top, top), nil},
		{set(0, top), set(top, top), set(0, top), set(top, top), set(0, top-1)},
		{set(1, top), set(0, 0), set(0, top), nil, set(1, top)},
		{set(1<<31, top), set(0, 1<<31-1), set(0, top), nil, set(1<<31, top)},
	}
	for _, k := range known {
		if l := Or(k.a, k.b); !slices.Equal(l, k.or) {
			t.Errorf("Or(%v, %v): %v", k.a, k.b, l)
		}
		if l := And(k.a, k.b); !slices.Equal(l, k.and) {
			t.Errorf("And(%v, %v): %v", k.a, k.b, l)
		}
		if l := Less(k.a, k.b); !slices.Equal(l, k.less) {
			t.Errorf("Less(%v, %v): %v", k.a, k.b, l)
		}
	}
}

// P2.4: Or, And and Less are told by Has, number by number; what they tell is in its form.
func TestMerged(t *testing.T) {
	for _, base := range bases() {
		for m := range uint(1 << width) {
			for n := range uint(1 << width) {
				for _, a := range [][]api.Span{formed(m, base), scrambled(m, base)} {
					b := scrambled(n, base)
					if l := Or(a, b); !slices.Equal(l, formed(m|n, base)) {
						t.Errorf("Or(%v, %v): %v", a, b, l)
					}
					if l := And(a, b); !slices.Equal(l, formed(m&n, base)) {
						t.Errorf("And(%v, %v): %v", a, b, l)
					}
					if l := Less(a, b); !slices.Equal(l, formed(m&^n, base)) {
						t.Errorf("Less(%v, %v): %v", a, b, l)
					}
				}
			}
		}
	}
}

// P2.1: known sets' complements, with ends ahead of, within and behind them.
func TestNotKnown(t *testing.T) {
	known := []struct {
		list []api.Span
		most uint32
		not  []api.Span
	}{
		{set(0, 2, 7, 7), 9, set(3, 6, 8, 9)},
		{nil, 0, set(0, 0)},
		{nil, 9, set(0, 9)},
		{nil, top, set(0, top)},
		{set(3, 1), top, set(0, top)},
		{set(0, top), top, nil},
		{set(0, top), 0, nil},
		{set(0, 0), 0, nil},
		{set(1, 1), 0, set(0, 0)},
		{set(0, 0), top, set(1, top)},
		{set(top, top), top, set(0, top-1)},
		{set(top, top), top - 1, set(0, top-1)},
		{set(0, top-1), top, set(top, top)},
		{set(1, top-1), top, set(0, 0, top, top)},
		{set(5, 20), 9, set(0, 4)},
		{set(5, 9), 9, set(0, 4)},
		{set(5, 8), 9, set(0, 4, 9, 9)},
		{set(10, 20), 9, set(0, 9)},
		{set(12, 20), 9, set(0, 9)},
	}
	for _, k := range known {
		if l := Not(k.list, k.most); !slices.Equal(l, k.not) {
			t.Errorf("Not(%v, %d): %v", k.list, k.most, l)
		}
	}
}

// P2.4: Not is told by Has; a set and its Not have no number in common, and all to most together.
func TestNot(t *testing.T) {
	for _, base := range bases() {
		mosts := []uint32{0, 1, top - 1, top}
		for i := range uint32(width + 1) {
			mosts = append(mosts, base+i)
		}
		for m := range uint(1 << width) {
			l := scrambled(m, base)
			for _, most := range mosts {
				not := Not(l, most)
				if !slices.Equal(not, Form(not)) {
					t.Errorf("Not(%v, %d): %v is not in its form", l, most, not)
				}
				for i := range uint32(width) {
					if x := base + i; Has(not, x) != (x <= most && m>>i&1 == 0) {
						t.Errorf("Not(%v, %d) and %d: %v", l, most, x, Has(not, x))
					}
				}
				if both := And(l, not); len(both) != 0 {
					t.Errorf("%v and its Not have %v in common", l, both)
				}
				all := set(0, most)
				if !slices.Equal(And(Or(l, not), all), all) || len(Less(not, all)) != 0 {
					t.Errorf("%v and its Not to %d are not all: %v", l, most, not)
				}
				if Count(not)+Count(And(l, all)) != uint64(most)+1 {
					t.Errorf("Not(%v, %d): %d numbers", l, most, Count(not))
				}
			}
		}
	}
}

// P2.2: into which pieces known sets cut.
func TestPiecesKnown(t *testing.T) {
	known := []struct {
		most   uint32
		sets   [][]api.Span
		pieces []api.Span
	}{
		{9, [][]api.Span{set(2, 4), set(4, 6)}, set(0, 1, 2, 3, 4, 4, 5, 6, 7, 9)},
		{0, nil, set(0, 0)},
		{0, [][]api.Span{set(0, 0)}, set(0, 0)},
		{0, [][]api.Span{set(1, 5), nil}, set(0, 0)},
		{top, nil, set(0, top)},
		{top, [][]api.Span{nil, set(3, 1)}, set(0, top)},
		{top, [][]api.Span{set(0, top)}, set(0, top)},
		{top, [][]api.Span{set(0, 0)}, set(0, 0, 1, top)},
		{top, [][]api.Span{set(top, top)}, set(0, top-1, top, top)},
		{top, [][]api.Span{set(0, top-1), set(1, top)}, set(0, 0, 1, top-1, top, top)},
		{top - 1, [][]api.Span{set(0, top-1), set(1, top)}, set(0, 0, 1, top-1)},
		{9, [][]api.Span{set(0, 9)}, set(0, 9)},
		{9, [][]api.Span{set(0, 20)}, set(0, 9)},
		{9, [][]api.Span{set(9, 20)}, set(0, 8, 9, 9)},
		{9, [][]api.Span{set(10, 20)}, set(0, 9)},
		{9, [][]api.Span{set(3, 5, 6, 8)}, set(0, 2, 3, 8, 9, 9)},
		{9, [][]api.Span{set(3, 5), set(6, 8)}, set(0, 2, 3, 5, 6, 8, 9, 9)},
		{9, [][]api.Span{set(6, 8, 4, 9, 3, 5)}, set(0, 2, 3, 9)},
		{9, [][]api.Span{set(2, 4), set(2, 4), set(5, 9, 0, 1)}, set(0, 1, 2, 4, 5, 9)},
		{9, [][]api.Span{set(5, 5), set(1, 1)}, set(0, 0, 1, 1, 2, 4, 5, 5, 6, 9)},
	}
	for _, k := range known {
		if l, e := Pieces(k.most, k.sets...); !slices.Equal(l, k.pieces) || e != api.OK {
			t.Errorf("Pieces(%d, %v): %v %v", k.most, k.sets, l, e)
		}
	}
}

// cutAt tells whether one of the sets has one of the numbers x-1 and x, and not the other one.
func cutAt(x uint32, sets [][]api.Span) bool {
	for _, l := range sets {
		if Has(l, x-1) != Has(l, x) {
			return true
		}
	}
	return false
}

// checkPieces says what of P2.2 and P2.5 does not hold of Pieces(most, sets ..), for sets of the numbers from base on.
func checkPieces(t *testing.T, base, most uint32, sets ...[]api.Span) {
	l, e := Pieces(most, sets...)
	if e != api.OK || len(l) == 0 || l[0].Lo != 0 || l[len(l)-1].Hi != most {
		t.Errorf("Pieces(%d, %v): %v %v", most, sets, l, e)
		return
	}
	begins := map[uint32]bool{}
	var count uint64
	for i, s := range l {
		begins[s.Lo] = true
		count += uint64(s.Hi) - uint64(s.Lo) + 1
		if s.Lo > s.Hi || i > 0 && s.Lo != l[i-1].Hi+1 {
			t.Errorf("Pieces(%d, %v): %v at %d", most, sets, s, i)
		}
		if i > 0 && !cutAt(s.Lo, sets) {
			t.Errorf("Pieces(%d, %v): no cut at %d", most, sets, s.Lo)
		}
	}
	if count != uint64(most)+1 || Count(l) != count {
		t.Errorf("Pieces(%d, %v): %d numbers", most, sets, count)
	}
	for i := range uint32(width + 1) {
		if x := base + i; x > 0 && x <= most && cutAt(x, sets) && !begins[x] {
			t.Errorf("Pieces(%d, %v): %v: a cut at %d", most, sets, l, x)
		}
	}
}

// P2.5: the pieces of none, one, two and three sets.
func TestPieces(t *testing.T) {
	for _, base := range bases() {
		for _, most := range []uint32{0, base, base + width/2, base + width - 1, base + width, top} {
			checkPieces(t, base, most)
			for m := range uint(1 << width) {
				checkPieces(t, base, most, scrambled(m, base))
				for n := range uint(1 << width) {
					checkPieces(t, base, most, formed(m, base), scrambled(n, base))
				}
				checkPieces(t, base, most, formed(m, base), formed(m*37%(1<<width), base), scrambled(m*11%(1<<width), base))
			}
		}
	}
}

// The limits that the document names.
func TestLimits(t *testing.T) {
	if MaxSets != 1024 || MaxPieces != 65536 {
		t.Errorf("MaxSets %d, MaxPieces %d", MaxSets, MaxPieces)
	}
}

// P2.2: as many sets as may be, and one more.
func TestPiecesMaxSets(t *testing.T) {
	sets := make([][]api.Span, MaxSets)
	for i := range sets {
		sets[i] = set(uint32(i), uint32(i))
	}
	l, e := Pieces(top, sets...)
	if e != api.OK || len(l) != MaxSets+1 || l[MaxSets] != (api.Span{Lo: MaxSets, Hi: top}) {
		t.Errorf("%d pieces, %v", len(l), e)
	}
	for _, more := range [][]api.Span{nil, set(3, 1), sets[0], set(0, top)} {
		if l, e := Pieces(top, append(slices.Clone(sets), more)...); len(l) != 0 || e != api.ErrArg {
			t.Errorf("one more, %v: %d pieces, %v", more, len(l), e)
		}
	}
	if l, e := Pieces(9, make([][]api.Span, MaxSets)...); !slices.Equal(l, set(0, 9)) || e != api.OK {
		t.Errorf("empty ones: %v %v", l, e)
	}
	if l, e := Pieces(9, make([][]api.Span, MaxSets+1)...); len(l) != 0 || e != api.ErrArg {
		t.Errorf("empty ones and one more: %v %v", l, e)
	}
}

// P2.2: as many pieces as may be, and one more: from one set, and from several that cut at the same places and at others.
func TestPiecesMaxPieces(t *testing.T) {
	odds := odd(2 * MaxPieces)
	var fourths, others []api.Span
	for i, s := range odds {
		if i%2 == 0 {
			fourths = append(fourths, s)
		} else {
			others = append(others, s)
		}
	}
	for i, sets := range [][][]api.Span{{odds}, {fourths, others}, {odds, nil, others, odds, set(0, top)}} {
		l, e := Pieces(MaxPieces-1, sets...)
		if e != api.OK || len(l) != MaxPieces {
			t.Errorf("sets %d: %d pieces, %v", i, len(l), e)
			continue
		}
		for x, s := range l {
			if s != (api.Span{Lo: uint32(x), Hi: uint32(x)}) {
				t.Errorf("sets %d: %v at %d", i, s, x)
				break
			}
		}
		for _, most := range []uint32{MaxPieces, MaxPieces + 1, top} {
			if l, e := Pieces(most, sets...); len(l) != 0 || e != api.ErrArg {
				t.Errorf("sets %d to %d: %d pieces, %v", i, most, len(l), e)
			}
		}
	}
	if l, e := Pieces(2, odds); !slices.Equal(l, set(0, 0, 1, 1, 2, 2)) || e != api.OK {
		t.Errorf("to 2: %v %v", l, e)
	}
}

// Many sets that cut at many places take no more than going over them.
func TestPiecesOfMany(t *testing.T) {
	start := time.Now()
	sets := make([][]api.Span, MaxSets)
	apart, _ := Pieces(MaxPieces-1, odd(MaxPieces))
	for i, s := range apart {
		sets[i%MaxSets] = append(sets[i%MaxSets], s)
	}
	if l, e := Pieces(MaxPieces-1, sets...); len(l) != MaxPieces || e != api.OK {
		t.Errorf("%d pieces, %v", len(l), e)
	}
	if took := time.Since(start); took > 20*time.Second {
		t.Errorf("took %v", took)
	}
}
