package rewrite_test

import (
	"fmt"
	"math/rand"
	"slices"
	"testing"

	"waymark/api"
	"waymark/rewrite"
)

// P11.1: the chapter's example.
func TestFirstKnown(t *testing.T) {
	l, f := example()
	h := api.Header{Src: 0x0A000001, Dst: 0x08080808, Proto: 6, SrcPort: 1024, DstPort: 80}
	other := h
	other.Src = 0x0B000001
	applies(t, l, f, false, h, 0)
	applies(t, l, f, true, h, 1)
	applies(t, l, f, false, other, 2)
	applies(t, l, f, true, other, 1)
	applies(t, l[:2], f, false, other, -1)
	applies(t, l[:1], f, true, h, -1)
	if got, e := rewrite.Apply(l, f, false, h); got != (api.Header{Src: 0x01020304, Dst: 0x08080808, Proto: 6, SrcPort: 1024, DstPort: 80}) || e != api.OK {
		t.Error(got, e)
	}
	if got, e := rewrite.Apply(l, f, true, h); got != (api.Header{Src: 0x0A000001, Dst: 0x05060708, Proto: 6, SrcPort: 1024, DstPort: 80}) || e != api.OK {
		t.Error(got, e)
	}
	if got, e := rewrite.Apply(l, f, false, other); got != (api.Header{Src: 0x09090909, Dst: 0x08080808, Proto: 6, SrcPort: 1024, DstPort: 80}) || e != api.OK {
		t.Error(got, e)
	}
}

// P11.1, P11.4: where there is none of the kind, all stays.
func TestFirstOfNone(t *testing.T) {
	l, f := example()
	for _, h := range []api.Header{{}, greatest, {Src: 0x0A000001}} {
		for _, dest := range kinds {
			applies(t, nil, nil, dest, h, -1)
			applies(t, []api.Rewrite{}, f, dest, h, -1)
			// What stands behind the end is no rewrite of it (R3).
			applies(t, l[:0], f, dest, h, -1)
			applies(t, []api.Rewrite{{Dest: !dest, To: 7}, {Dest: !dest, Filter: "g", To: 8}}, f, dest, h, -1)
		}
	}
}

// P11.1: the filters are looked for by name: the first one of a name; an empty one stands for one that permits all, also if there are filters without a name.
func TestFilters(t *testing.T) {
	deny, permit := []api.Rule{anything(false)}, []api.Rule{anything(true)}
	for _, dest := range kinds {
		for _, h := range []api.Header{{}, greatest, {Src: 0x0A000001, Proto: 6}} {
			one := func(name string) []api.Rewrite { return []api.Rewrite{{Dest: dest, Filter: name, To: 5}} }
			applies(t, one("f"), []api.Filter{{Name: "f", Rules: deny}, {Name: "f", Rules: permit}}, dest, h, -1)
			applies(t, one("f"), []api.Filter{{Name: "g", Rules: deny}, {Name: "f", Rules: permit}, {Name: "f", Rules: deny}}, dest, h, 0)
			applies(t, one("f"), []api.Filter{{Name: "f"}, {Name: "f", Rules: permit}}, dest, h, -1)
			applies(t, one("f"), []api.Filter{{Name: "", Rules: permit}, {Name: "F", Rules: permit}, {Name: "ff", Rules: permit}, {Name: "f", Rules: deny}}, dest, h, -1)
			applies(t, one("a b\x00"), []api.Filter{{Name: "a b", Rules: deny}, {Name: "a b\x00", Rules: permit}}, dest, h, 0)
			applies(t, one(""), nil, dest, h, 0)
			applies(t, one(""), []api.Filter{{Name: "", Rules: deny}}, dest, h, 0)
			applies(t, one(""), []api.Filter{{Name: ""}, {Name: "", Rules: []api.Rule{{Proto: 256}}}}, dest, h, 0)
		}
	}
}

// P11.1, P11.4, P11.5: many lists: which one applies, and what comes of it; then the same comes of that, if the filters say the same of it.
func TestApplyMany(t *testing.T) {
	r := rand.New(rand.NewSource(11))
	applied, none, again, unlike := 0, 0, 0, 0
	for range 20000 {
		l, filters := anyRewrites(r, 9)
		dest := r.Intn(2) == 0
		h := anyHeader(r)
		at := plainFirst(l, filters, dest, h)
		applies(t, l, filters, dest, h, at)
		if at < 0 {
			none++
			continue
		}
		applied++
		applies(t, l[:at], filters, dest, h, -1)
		applies(t, l[at:], filters, dest, h, 0)
		to := with(h, dest, l[at].To)
		says := func(h api.Header) []bool {
			var list []bool
			for _, r := range l {
				list = append(list, plainPermits(filters, r.Filter, h))
			}
			return list
		}
		twice, e := rewrite.Apply(l, filters, dest, to)
		switch {
		case e != api.OK:
			t.Fatal(e)
		case slices.Equal(says(h), says(to)) && twice != to:
			t.Fatal(l, filters, h, to, twice)
		case twice == to:
			again++
		default:
			unlike++
		}
	}
	if applied < 3000 || none < 3000 || again < 1000 || unlike < 300 {
		t.Error(applied, "applied,", none, "not;", again, "again,", unlike, "unlike")
	}
}

// P11.5: one behind another one of its kind with the same filter never applies, whatever stands between; one of the other kind is of no matter.
func TestBehind(t *testing.T) {
	r := rand.New(rand.NewSource(11))
	for range 5000 {
		l, filters := anyRewrites(r, 9)
		if len(l) == 0 {
			continue
		}
		at := r.Intn(len(l))
		behind := l[at]
		behind.To = 0x07070707
		place := at + 1 + r.Intn(len(l)-at)
		longer := slices.Insert(slices.Clone(l), place, behind)
		other := slices.Clone(longer)
		other[place].Dest = !behind.Dest
		for _, dest := range kinds {
			h := anyHeader(r)
			want := plainApply(l, filters, dest, h)
			if got, e := rewrite.Apply(longer, filters, dest, h); got != want || e != api.OK {
				t.Fatal(longer, filters, h, got, e, want)
			}
			if i, e := rewrite.First(longer, filters, dest, h); i == place || e != api.OK {
				t.Fatal(longer, filters, h, i, e)
			}
			if dest != behind.Dest {
				continue
			}
			if got, e := rewrite.Apply(other, filters, dest, h); got != want || e != api.OK {
				t.Fatal(other, filters, h, got, e, want)
			}
		}
	}
}

// apart are the rewrites of a list with those of one kind ahead of all others, each kind in its order.
func apart(l []api.Rewrite, dest bool) []api.Rewrite {
	list := slices.Clone(l)
	slices.SortStableFunc(list, func(a, b api.Rewrite) int {
		switch {
		case a.Dest == b.Dest:
			return 0
		case a.Dest == dest:
			return -1
		}
		return 1
	})
	return list
}

// P11.5: the order between the kinds is of no matter.
func TestKindsApart(t *testing.T) {
	r := rand.New(rand.NewSource(11))
	for range 3000 {
		l, filters := anyRewrites(r, 9)
		h := anyHeader(r)
		for _, dest := range kinds {
			want := plainApply(l, filters, dest, h)
			for _, ahead := range kinds {
				list := apart(l, ahead)
				if got, e := rewrite.Apply(list, filters, dest, h); got != want || e != api.OK {
					t.Fatal(list, filters, h, got, e, want)
				}
				applies(t, list, filters, dest, h, plainFirst(list, filters, dest, h))
			}
		}
	}
}

// P11.1: as many rewrites as may be, of which each alone applies to some headers, also the last one.
func TestMostRewrites(t *testing.T) {
	for _, dest := range kinds {
		var l []api.Rewrite
		var filters []api.Filter
		for i := range api.MaxRules {
			r := anything(true)
			r.Proto = i
			name := fmt.Sprint("f", i)
			l = append(l, api.Rewrite{Dest: dest, Filter: name, To: api.Addr(1000 + i)})
			filters = append(filters, api.Filter{Name: name, Rules: []api.Rule{r}})
		}
		for i := range l {
			applies(t, l, filters, dest, api.Header{Src: 7, Proto: uint8(i)}, i)
			applies(t, l, filters, !dest, api.Header{Src: 7, Proto: uint8(i)}, -1)
		}
	}
}
