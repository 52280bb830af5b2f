package routes_test

import (
	"math/rand"
	"reflect"
	"slices"
	"testing"

	"waymark/api"
	"waymark/routes"
)

// checkSort looks whether lists of all sizes, in any order, some in them twice, come out in order, each once (P8.1, P8.3).
func checkSort[T any](t *testing.T, sort func([]T) []T, fields []field[T]) {
	t.Helper()
	r := rand.New(rand.NewSource(8))
	for size := range 200 {
		var at [][]int
		for range size {
			at = append(at, places(r, fields, size%4))
			if r.Intn(3) == 0 {
				at = append(at, at[r.Intn(len(at))])
			}
		}
		var list []T
		for _, p := range at {
			list = append(list, made(fields, p))
		}
		r.Shuffle(len(list), func(i, k int) { list[i], list[k] = list[k], list[i] })
		slices.SortFunc(at, slices.Compare[[]int])
		var want []T
		for i, p := range at {
			if i == 0 || slices.Compare(at[i-1], p) != 0 {
				want = append(want, made(fields, p))
			}
		}
		got := sort(list)
		if len(got) != len(want) || len(got) > 0 && !reflect.DeepEqual(got, want) {
			t.Errorf("%v: %v, not %v", list, got, want)
		}
		if again := sort(got); len(again) > 0 && !reflect.DeepEqual(again, got) {
			t.Errorf("%v: %v", got, again)
		}
	}
}

func TestSort(t *testing.T) {
	checkSort(t, routes.Sort, routeFields())
	for _, l := range [][]api.Route{nil, {}, make([]api.Route, 0, 9)} {
		if got := routes.Sort(l); len(got) != 0 {
			t.Error(got)
		}
	}
}

func TestSortAdverts(t *testing.T) {
	checkSort(t, routes.SortAdverts, advertFields())
	for _, l := range [][]api.Advert{nil, {}, make([]api.Advert, 0, 9)} {
		if got := routes.SortAdverts(l); len(got) != 0 {
			t.Error(got)
		}
	}
}

// R6: adverts that are the same but for lists that are nil or empty stand once.
func TestSortAdvertsEmpty(t *testing.T) {
	list := []api.Advert{{Path: []uint32{}}, {}, {Clusters: []api.Addr{}}, {Comm: []uint32{0}}, {Comm: []uint32{}, Path: []uint32{}}}
	if got := routes.SortAdverts(list); !routes.SameAdverts(got, []api.Advert{{}, {Comm: []uint32{0}}}) {
		t.Error(got)
	}
}

// P8.3: each order of a few, with each of them once or twice.
func TestSortTurned(t *testing.T) {
	few := []api.Route{{From: 1}, {From: 1, Discard: true}, {From: 1, Hop: 5}, {From: 2}}
	count := 0
	var put func(list []api.Route)
	put = func(list []api.Route) {
		if len(list) > 6 {
			return
		}
		var want []api.Route
		for _, r := range few {
			if slices.Contains(list, r) {
				want = append(want, r)
			}
		}
		if got := routes.Sort(list); !slices.Equal(got, want) {
			t.Errorf("%v: %v", list, got)
		}
		count++
		for _, r := range few {
			put(append(slices.Clone(list), r))
		}
	}
	put(nil)
	if count != (4*4*4*4*4*4*4-1)/3 { // all lists of up to six
		t.Errorf("%d lists", count)
	}
}

// R3: what is handed in isn't changed, nor read beyond its length, and the answer is the caller's own.
func TestSortHandedOut(t *testing.T) {
	whole := []api.Route{{From: 3}, {From: 1}, {From: 3}, {From: 0}, {From: 2}}
	was := slices.Clone(whole)
	want := []api.Route{{From: 1}, {From: 3}}
	for range 2 {
		got := routes.Sort(whole[:3])
		if !slices.Equal(got, want) || !slices.Equal(whole, was) {
			t.Errorf("%v, %v", got, whole)
		}
		for i := range got[:cap(got)] {
			got[:cap(got)][i] = api.Route{Tag: 9}
		}
		if !slices.Equal(whole, was) {
			t.Error(whole)
		}
	}
	for _, l := range [][]api.Route{whole[:0], whole[:1]} {
		got := routes.Sort(l)
		for i := range got[:cap(got)] {
			got[:cap(got)][i] = api.Route{Tag: 9}
		}
		if !slices.Equal(whole, was) {
			t.Error(whole)
		}
	}
}

// adverts are some whose lists have room behind their ends, and stand in one another's room.
func adverts() (list []api.Advert, numbers []uint32, ids []api.Addr) {
	numbers = []uint32{1, 2, 3, 4, 5, 6}
	ids = []api.Addr{1, 2, 3, 4, 5, 6}
	return []api.Advert{
		{Session: 2, Path: numbers[:2], Comm: numbers[:2], Clusters: ids[:2]},
		{Session: 1, Path: numbers[:2], Comm: numbers[1:3], Clusters: ids[:2]},
		{Session: 2, Path: numbers[:2], Comm: numbers[:2], Clusters: ids[:2]},
		{Session: 0, Path: numbers[2:2], Comm: numbers[:0], Clusters: ids[4:4]},
		{Session: 3, Path: numbers, Comm: numbers, Clusters: ids},
	}, numbers, ids
}

// R3: so of adverts, with the lists within them: what is written into one is seen in no other one.
func TestSortAdvertsHandedOut(t *testing.T) {
	list, numbers, ids := adverts()
	same := func() bool {
		was, n, m := adverts()
		return reflect.DeepEqual(list, was) && slices.Equal(numbers, n) && slices.Equal(ids, m)
	}
	want := []api.Advert{
		{Session: 0},
		{Session: 1, Path: []uint32{1, 2}, Comm: []uint32{2, 3}, Clusters: []api.Addr{1, 2}},
		{Session: 2, Path: []uint32{1, 2}, Comm: []uint32{1, 2}, Clusters: []api.Addr{1, 2}},
	}
	for range 2 {
		got := routes.SortAdverts(list[:4])
		if !routes.SameAdverts(got, want) || !same() {
			t.Fatalf("%v, %v", got, list)
		}
		var lists [][]uint32
		for _, a := range got {
			lists = append(lists, a.Path[:cap(a.Path)], a.Comm[:cap(a.Comm)])
		}
		for i, l := range lists {
			for k := range l {
				l[k] = uint32(1000 + i)
			}
		}
		for i, l := range lists {
			for _, n := range l {
				if n != uint32(1000+i) {
					t.Errorf("the list %d has %v", i, l)
				}
			}
		}
		for i, a := range got {
			for k := range a.Clusters[:cap(a.Clusters)] {
				a.Clusters[:cap(a.Clusters)][k] = api.Addr(1000 + i)
			}
		}
		for i, a := range got {
			for _, id := range a.Clusters {
				if id != api.Addr(1000+i) {
					t.Errorf("the advert %d has %v", i, a.Clusters)
				}
			}
		}
		for i := range got[:cap(got)] {
			got[:cap(got)][i] = api.Advert{Metric: 9}
		}
		if !same() {
			t.Fatal(list)
		}
	}
}
