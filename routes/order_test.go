package routes_test

import (
	"math/rand"
	"slices"
	"testing"

	"waymark/api"
	"waymark/routes"
)

// checkOrder looks whether two things stand so, also turned about.
func checkOrder[T any](t *testing.T, order func(a, b T) int, a, b T, want int) {
	t.Helper()
	if c := order(a, b); c != want {
		t.Fatalf("%v, %v: %d, not %d", a, b, c, want)
	}
	if c := order(b, a); c != -want {
		t.Fatalf("%v, %v: %d, not %d", b, a, c, -want)
	}
}

// checkFields looks whether each field decides ahead of all behind it, by each two of its values, and behind all ahead of it.
func checkFields[T any](t *testing.T, order func(a, b T) int, fields []field[T]) {
	t.Helper()
	for i, f := range fields {
		for high := range f {
			for low := range high + 1 {
				var a, b []int
				for k, g := range fields {
					switch {
					case k < i:
						a, b = append(a, (low+k)%len(g)), append(b, (low+k)%len(g))
					case k == i:
						a, b = append(a, low), append(b, high)
					case low < high: // all behind it says the other thing
						a, b = append(a, len(g)-1), append(b, 0)
					default:
						a, b = append(a, high%len(g)), append(b, high%len(g))
					}
				}
				want := 0
				if low < high {
					want = -1
				}
				checkOrder(t, order, made(fields, a), made(fields, b), want)
			}
		}
	}
}

// checkMany looks whether any things stand as the places of their fields' values do (P8.3: so it is an order, and 0 just of the same).
func checkMany[T any](t *testing.T, order func(a, b T) int, fields []field[T]) {
	t.Helper()
	r := rand.New(rand.NewSource(8))
	for range 100000 {
		few := r.Intn(4)
		a, b := places(r, fields, few), places(r, fields, few)
		// Most of them are the same up to a field, or in all but one.
		switch same := r.Intn(len(fields) + 1); r.Intn(3) {
		case 0:
			copy(b[:same], a)
		case 1:
			at := r.Intn(len(fields))
			value := b[at]
			copy(b, a)
			b[at] = value
		}
		checkOrder(t, order, made(fields, a), made(fields, b), slices.Compare(a, b))
	}
}

// P8.1: routes by their fields.
func TestCmp(t *testing.T) {
	checkFields(t, routes.Cmp, routeFields())
	checkMany(t, routes.Cmp, routeFields())
}

// P8.1: adverts by their fields.
func TestCmpAdvert(t *testing.T) {
	checkFields(t, routes.CmpAdvert, advertFields())
	checkMany(t, routes.CmpAdvert, advertFields())
}

// P8.1: known routes, as they stand.
func TestCmpKnown(t *testing.T) {
	ten := api.Prefix{Addr: 0x0A000000, Bits: 8}
	known := []api.Route{
		{},
		{From: api.Connected, Discard: true},
		{Prefix: ten, From: api.Written, Dist: 1, Metric: 5, Hop: 9},
		{Prefix: ten, From: api.Written, Dist: 2, Hop: 1},
		{Prefix: ten, From: api.Intra, Iface: "eth1", Hop: 1},
		{Prefix: ten, From: api.Intra, Iface: "eth10", Hop: 1},
		{Prefix: ten, From: api.Intra, Iface: "eth2", Hop: 1},
		{Prefix: ten, From: api.Intra, Hop: 2},
		{Prefix: ten, From: api.Intra, Tag: 1},
		{Prefix: ten, From: api.Intra, Metric: 1},
		{Prefix: ten, From: api.IBGP},
		{Prefix: api.Prefix{Addr: 0x0A000000, Bits: 24}, From: api.Connected},
	}
	for i, a := range known {
		checkOrder(t, routes.Cmp, a, a, 0)
		for _, b := range known[i+1:] {
			checkOrder(t, routes.Cmp, a, b, -1)
		}
	}
}

// P8.1: known adverts, as they stand.
func TestCmpAdvertKnown(t *testing.T) {
	known := []api.Advert{
		{Session: -1, Pref: 100, Path: []uint32{9}},
		{Session: -1, Pref: 200},
		{},
		{Clusters: []api.Addr{1, 2}},
		{Clusters: []api.Addr{1, 2, 0}},
		{Clusters: []api.Addr{2}},
		{Comm: []uint32{1}},
		{Path: []uint32{2, 9}},
		{Path: []uint32{10}},
		{Origin: 1},
		{External: true},
		{PeerID: 1},
		{Peer: 1},
		{Hop: 1},
		{Metric: 1},
		{Pref: 1},
		{Session: 1},
	}
	for i, a := range known {
		checkOrder(t, routes.CmpAdvert, a, a, 0)
		for _, b := range known[i+1:] {
			checkOrder(t, routes.CmpAdvert, a, b, -1)
		}
	}
}

// R6: a list that is nil is the same as an empty one; R3: what stands behind a list's end is not looked at.
func TestCmpAdvertEmpty(t *testing.T) {
	room := []uint32{1, 2, 3}
	ids := []api.Addr{1, 2, 3}
	known := [][]api.Advert{
		{{}, {Path: []uint32{}}, {Comm: []uint32{}}, {Clusters: []api.Addr{}}, {Path: room[:0], Comm: room[1:1], Clusters: ids[:0]}},
		{{Path: []uint32{1}}, {Path: room[:1]}, {Path: room[:1:1], Comm: room[3:]}},
		{{Clusters: []api.Addr{1, 2}}, {Clusters: ids[:2]}},
	}
	for i, l := range known {
		for k, m := range known {
			for _, a := range l {
				for _, b := range m {
					if c := routes.CmpAdvert(a, b); (c == 0) != (i == k) {
						t.Errorf("%v, %v: %d", a, b, c)
					}
					if same := routes.SameAdverts([]api.Advert{a}, []api.Advert{b}); same != (i == k) {
						t.Errorf("%v, %v: %v", a, b, same)
					}
				}
			}
		}
	}
}

// P8.1: lists are the same if they have the same things at the same places, and no more.
func checkSame[T any](t *testing.T, same func(a, b []T) bool, fields []field[T]) {
	t.Helper()
	look := func(a, b []T, want bool) {
		t.Helper()
		if same(a, b) != want || same(b, a) != want {
			t.Errorf("%v, %v: not %v", a, b, want)
		}
	}
	r := rand.New(rand.NewSource(8))
	for i, f := range fields {
		at := places(r, fields, 0)
		for k := range f {
			for m := range f {
				a, b := slices.Clone(at), slices.Clone(at)
				a[i], b[i] = k, m
				x, y := made(fields, a), made(fields, b)
				look([]T{x}, []T{y}, k == m)
				look([]T{x, y}, []T{y, x}, k == m)
				look([]T{x, y, x}, []T{x, y, y}, k == m)
			}
		}
	}
	x := made(fields, places(r, fields, 0))
	look(nil, nil, true)
	look(nil, []T{}, true)
	look(nil, []T{x}, false)
	look([]T{x, x}[:1], []T{x}, true)
	look([]T{x, x}, []T{x}, false)
	var zero T
	look([]T{zero}, nil, false)
}

func TestSame(t *testing.T) {
	checkSame(t, routes.Same, routeFields())
}

func TestSameAdverts(t *testing.T) {
	checkSame(t, routes.SameAdverts, advertFields())
}
