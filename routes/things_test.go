package routes_test

import (
	"math"
	"math/rand"
	"slices"

	"waymark/api"
)

// A field of a thing: what sets it to its values, which rise.
type field[T any] []func(*T)

// rising makes a field of what sets it and of its values.
func rising[T, V any](set func(*T, V), values ...V) field[T] {
	var f field[T]
	for _, v := range values {
		f = append(f, func(x *T) { set(x, v) })
	}
	return f
}

var (
	addresses = []api.Addr{0, 1, 0x0A000000, 0x0A010001, 1<<31 - 1, 1 << 31, math.MaxUint32}
	numbers   = []int{math.MinInt, math.MinInt32, -2, -1, 0, 1, 9, 10, 100, math.MaxInt32, math.MaxInt32 + 1, math.MaxInt}
	prefixes  = []api.Prefix{
		{Bits: math.MinInt}, {Bits: -1}, {}, {Bits: 1}, {Bits: 32}, {Bits: 33}, {Addr: 1}, {Addr: 1, Bits: 32},
		{Addr: 0x0A000000, Bits: 8}, {Addr: 0x0A000000, Bits: 24}, {Addr: 1 << 31, Bits: -5}, {Addr: 1 << 31, Bits: 1}, {Addr: math.MaxUint32, Bits: 32}, {Addr: math.MaxUint32, Bits: math.MaxInt},
	}
	names = []string{"", "\x00", "\x00\x00", " ", "A", "Z", "a", "a\x00", "a0", "aa", "ab", "b", "eth0", "eth1", "eth10", "\u00e9", "\xff"}
	paths = [][]uint32{nil, {0}, {0, 0}, {0, 0, 0}, {0, 1}, {0, math.MaxUint32}, {1}, {1, 0}, {65001, 65002}, {65001, 65002, 1}, {65002}, {1<<31 - 1}, {1 << 31}, {math.MaxUint32}, {math.MaxUint32, 0}}
)

// routeFields are a route's fields in the order in which they count.
func routeFields() []field[api.Route] {
	return []field[api.Route]{
		rising(func(r *api.Route, v api.Prefix) { r.Prefix = v }, prefixes...),
		rising(func(r *api.Route, v uint8) { r.From = v }, 0, 1, 2, 3, 4, 5, 6, 7, 8, 9, 127, 128, 255),
		rising(func(r *api.Route, v int) { r.Dist = v }, numbers...),
		rising(func(r *api.Route, v int) { r.Metric = v }, numbers...),
		rising(func(r *api.Route, v int) { r.Tag = v }, numbers...),
		rising(func(r *api.Route, v api.Addr) { r.Hop = v }, addresses...),
		rising(func(r *api.Route, v string) { r.Iface = v }, names...),
		rising(func(r *api.Route, v bool) { r.Discard = v }, false, true),
	}
}

// advertFields are an advert's fields in the order in which they count.
func advertFields() []field[api.Advert] {
	var clusters [][]api.Addr
	for _, path := range paths {
		var ids []api.Addr
		for _, n := range path {
			ids = append(ids, api.Addr(n))
		}
		clusters = append(clusters, ids)
	}
	return []field[api.Advert]{
		rising(func(a *api.Advert, v api.Prefix) { a.Prefix = v }, prefixes...),
		rising(func(a *api.Advert, v int) { a.Session = v }, numbers...),
		rising(func(a *api.Advert, v int) { a.Pref = v }, numbers...),
		rising(func(a *api.Advert, v int) { a.Metric = v }, numbers...),
		rising(func(a *api.Advert, v api.Addr) { a.Hop = v }, addresses...),
		rising(func(a *api.Advert, v api.Addr) { a.Peer = v }, addresses...),
		rising(func(a *api.Advert, v api.Addr) { a.PeerID = v }, addresses...),
		rising(func(a *api.Advert, v bool) { a.External = v }, false, true),
		rising(func(a *api.Advert, v api.Addr) { a.Origin = v }, addresses...),
		rising(func(a *api.Advert, v []uint32) { a.Path = slices.Clone(v) }, paths...),
		rising(func(a *api.Advert, v []uint32) { a.Comm = slices.Clone(v) }, paths...),
		rising(func(a *api.Advert, v []api.Addr) { a.Clusters = slices.Clone(v) }, clusters...),
	}
}

// made is the thing whose fields have the values of these places; things stand as their places do.
func made[T any](fields []field[T], places []int) T {
	var x T
	for i, f := range fields {
		f[places[i]](&x)
	}
	return x
}

// places are places of values, at which each field has one of its first few, or any, if few is 0.
func places[T any](r *rand.Rand, fields []field[T], few int) []int {
	var list []int
	for _, f := range fields {
		most := len(f)
		if few > 0 {
			most = min(few, most)
		}
		list = append(list, r.Intn(most))
	}
	return list
}
