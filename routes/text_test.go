package routes_test

import (
	"fmt"
	"math"
	"math/rand"
	"strings"
	"testing"

	"waymark/addr"
	"waymark/api"
	"waymark/routes"
)

var ten = api.Prefix{Addr: 0x0A000000, Bits: 8}

// knownRoutes are routes that may be written, and their texts.
func knownRoutes() map[string]api.Route {
	return map[string]api.Route{
		"10.0.0.0/8 intra 110 20 0 via 10.1.0.1 on eth0":                {Prefix: ten, From: api.Intra, Dist: 110, Metric: 20, Iface: "eth0", Hop: 0x0A010001},
		"0.0.0.0/0 written 1 0 0 discard":                               {From: api.Written, Dist: 1, Discard: true},
		"10.0.0.0/8 connected 0 0 0 on ge-0/0.1_x":                      {Prefix: ten, From: api.Connected, Iface: "ge-0/0.1_x"},
		"10.0.0.0/8 inter 1 2 3 via 255.255.255.255":                    {Prefix: ten, From: api.Inter, Dist: 1, Metric: 2, Tag: 3, Hop: math.MaxUint32},
		"10.0.0.0/8 external1 3 2 1 via 0.0.0.1":                        {Prefix: ten, From: api.External1, Dist: 3, Metric: 2, Tag: 1, Hop: 1},
		"255.255.255.255/32 external2 2147483647 2147483647 2147483647": {Prefix: api.Prefix{Addr: math.MaxUint32, Bits: 32}, From: api.External2, Dist: math.MaxInt32, Metric: math.MaxInt32, Tag: math.MaxInt32},
		"10.0.0.0/8 ebgp 20 0 0 on via":                                 {Prefix: ten, From: api.EBGP, Dist: 20, Iface: "via"},
		"10.0.0.0/8 ibgp 200 0 0 on on":                                 {Prefix: ten, From: api.IBGP, Dist: 200, Iface: "on"},
		"10.0.0.0/8 ibgp 0 0 0 on discard":                              {Prefix: ten, From: api.IBGP, Iface: "discard"},
		"10.0.0.0/8 ibgp 0 0 0 via 1.2.3.4 on via":                      {Prefix: ten, From: api.IBGP, Hop: 0x01020304, Iface: "via"},
		"10.0.0.0/8 connected 0 0 0":                                    {Prefix: ten, From: api.Connected},
		"10.0.0.0/8 connected 0 0 0 discard":                            {Prefix: ten, From: api.Connected, Discard: true},
	}
}

// knownAdverts are adverts that may be written, and their texts.
func knownAdverts() map[string]api.Advert {
	return map[string]api.Advert{
		"10.0.0.0/8 via 10.1.0.1 pref 100 metric 0 peer 10.1.0.1 id 1.1.1.1 external origin 0.0.0.0 session 3 path 65001 65002 comm clusters": {
			Prefix: ten, Hop: 0x0A010001, Pref: 100, Path: []uint32{65001, 65002}, Session: 3, Peer: 0x0A010001, PeerID: 0x01010101, External: true},
		"0.0.0.0/0 via 0.0.0.0 pref 0 metric 0 peer 0.0.0.0 id 0.0.0.0 internal origin 0.0.0.0 session 0 path comm clusters": {},
		"0.0.0.0/0 via 0.0.0.1 pref 2 metric 3 peer 0.0.0.4 id 0.0.0.5 internal origin 0.0.0.6 session -1 path 7 comm 8 clusters 0.0.0.9": {
			Hop: 1, Pref: 2, Metric: 3, Peer: 4, PeerID: 5, Origin: 6, Session: -1, Path: []uint32{7}, Comm: []uint32{8}, Clusters: []api.Addr{9}},
		"255.255.255.255/32 via 255.255.255.255 pref 2147483647 metric 2147483647 peer 0.0.0.0 id 0.0.0.0 external origin 0.0.0.0 session 2147483647 path 0 4294967295 0 comm 4294967295 0 0 clusters 0.0.0.0 255.255.255.255 0.0.0.0": {
			Prefix: api.Prefix{Addr: math.MaxUint32, Bits: 32}, Hop: math.MaxUint32, Pref: math.MaxInt32, Metric: math.MaxInt32, Session: math.MaxInt32, External: true,
			Path: []uint32{0, math.MaxUint32, 0}, Comm: []uint32{math.MaxUint32, 0, 0}, Clusters: []api.Addr{0, math.MaxUint32, 0}},
	}
}

// P8.2: known texts; and back (P8.4).
func TestTextKnown(t *testing.T) {
	for s, r := range knownRoutes() {
		if got, e := routes.Text(r); got != s || e != api.OK {
			t.Errorf("Text(%v): %q %v", r, got, e)
		}
		if got, e := routes.Parse(s); got != r || e != api.OK {
			t.Errorf("Parse(%q): %v %v", s, got, e)
		}
	}
}

// P8.2: so of adverts.
func TestAdvertTextKnown(t *testing.T) {
	for s, a := range knownAdverts() {
		if got, e := routes.AdvertText(a); got != s || e != api.OK {
			t.Errorf("AdvertText(%v): %q %v", a, got, e)
		}
		if got, e := routes.ParseAdvert(s); !sameAdvert(got, a) || e != api.OK {
			t.Errorf("ParseAdvert(%q): %v %v", s, got, e)
		}
	}
}

func sameAdvert(a, b api.Advert) bool {
	return routes.SameAdverts([]api.Advert{a}, []api.Advert{b})
}

// plainRoute is a route's text; none, if it may not be written.
func plainRoute(r api.Route) string {
	words := strings.Fields("connected written intra inter external1 external2 ebgp ibgp")
	if r.From < 1 || int(r.From) > len(words) || addr.Check(r.Prefix) != api.OK || r.Discard && (r.Hop > 0 || len(r.Iface) > 0) {
		return ""
	}
	s := fmt.Sprint(addr.PrefixText(r.Prefix), " ", words[r.From-1], " ", r.Dist, " ", r.Metric, " ", r.Tag)
	if r.Hop > 0 {
		s += " via " + addr.Text(r.Hop)
	}
	if len(r.Iface) > 0 {
		s += " on " + r.Iface
	}
	if r.Discard {
		s += " discard"
	}
	// The numbers and the name are asked of the text, by its form.
	if _, is := plainParse(s); !is {
		return ""
	}
	return s
}

// plainAdvert is an advert's text; none, if it may not be written.
func plainAdvert(a api.Advert) string {
	sides := map[bool]string{true: "external", false: "internal"}
	s := fmt.Sprintf("%s via %s pref %d metric %d peer %s id %s %s origin %s session %d", addr.PrefixText(a.Prefix), addr.Text(a.Hop), a.Pref, a.Metric, addr.Text(a.Peer), addr.Text(a.PeerID), sides[a.External], addr.Text(a.Origin), a.Session)
	s += " path"
	for _, n := range a.Path {
		s += fmt.Sprint(" ", n)
	}
	s += " comm"
	for _, n := range a.Comm {
		s += fmt.Sprint(" ", n)
	}
	s += " clusters"
	for _, id := range a.Clusters {
		s += " " + addr.Text(id)
	}
	if addr.Check(a.Prefix) != api.OK || !advertForm.MatchString(s) || !smallNumbers(a.Pref, a.Metric) || a.Session > math.MaxInt32 {
		return ""
	}
	return s
}

// checkTexts looks whether any things have their texts, or may not be written; whether these are read as them; and whether unlike ones have unlike texts.
func checkTexts[T any](t *testing.T, fields []field[T], numbered []int, plain func(T) string, text func(T) (string, api.Errno), parse func(string) (T, api.Errno), same func(a, b []T) bool) {
	t.Helper()
	r := rand.New(rand.NewSource(8))
	written, refused := map[string]T{}, 0
	for range 100000 {
		at := places(r, fields, 0)
		// Numbers from 0 on for the most part, so that many may be written.
		for _, k := range numbered {
			if r.Intn(9) > 0 {
				at[k] = 4 + r.Intn(6)
			}
		}
		x := made(fields, at)
		want := plain(x)
		s, e := text(x)
		if s != want || want == "" && e != api.ErrArg || want != "" && e != api.OK {
			t.Fatalf("%v: %q %v, not %q", x, s, e, want)
		}
		if want == "" {
			refused++
			continue
		}
		if back, e := parse(s); !same([]T{back}, []T{x}) || e != api.OK {
			t.Fatalf("%q: %v %v, not %v", s, back, e, x)
		}
		if other, is := written[s]; is && !same([]T{other}, []T{x}) {
			t.Fatalf("%v, %v: both %q", x, other, s)
		}
		written[s] = x
	}
	if len(written) < 3000 || refused < 3000 {
		t.Errorf("%d written, %d refused", len(written), refused)
	}
}

// P8.2, P8.4: any routes have their texts, or may not be written; and back.
func TestTextMany(t *testing.T) {
	checkTexts(t, routeFields(), []int{2, 3, 4}, plainRoute, routes.Text, routes.Parse, routes.Same)
}

// P8.2, P8.4: so of adverts.
func TestAdvertTextMany(t *testing.T) {
	checkTexts(t, advertFields(), []int{1, 2, 3}, plainAdvert, routes.AdvertText, routes.ParseAdvert, routes.SameAdverts)
}

// P8.2: what one field alone decides: each way of a route not to be written.
func TestTextRefused(t *testing.T) {
	good := api.Route{Prefix: ten, From: api.Intra, Dist: 1, Metric: 2, Tag: 3, Hop: 4, Iface: "e"}
	look := func(may bool, change func(r *api.Route)) {
		t.Helper()
		r := good
		change(&r)
		s, e := routes.Text(r)
		if may && (s == "" || e != api.OK) || !may && (s != "" || e != api.ErrArg) {
			t.Errorf("Text(%v): %q %v", r, s, e)
		}
	}
	for from := range 256 {
		look(from >= 1 && from <= 8, func(r *api.Route) { r.From = uint8(from) })
	}
	for _, p := range prefixes {
		look(addr.Check(p) == api.OK, func(r *api.Route) { r.Prefix = p })
	}
	for _, n := range append(numbers, math.MaxUint32, math.MaxUint32+1, math.MaxUint32+6) {
		may := n >= 0 && n <= 1<<31-1
		look(may, func(r *api.Route) { r.Dist = n })
		look(may, func(r *api.Route) { r.Metric = n })
		look(may, func(r *api.Route) { r.Tag = n })
	}
	for c := range 256 {
		letter := c >= 'a' && c <= 'z' || c >= 'A' && c <= 'Z'
		inside := letter || c >= '0' && c <= '9' || c == '-' || c == '_' || c == '.' || c == '/'
		b := string([]byte{byte(c)})
		look(letter, func(r *api.Route) { r.Iface = b })
		look(letter, func(r *api.Route) { r.Iface = b + "9" })
		look(inside, func(r *api.Route) { r.Iface = "a" + b })
		look(inside, func(r *api.Route) { r.Iface = "a" + b + "a" })
	}
	for length := range 70 {
		look(length <= 32, func(r *api.Route) { r.Iface = strings.Repeat("a", length) })
	}
	look(false, func(r *api.Route) { r.Iface = strings.Repeat("a", 1<<20) })
	look(false, func(r *api.Route) { r.Discard = true })
	look(false, func(r *api.Route) { r.Discard, r.Hop = true, 0 })
	look(false, func(r *api.Route) { r.Discard, r.Iface = true, "" })
	look(true, func(r *api.Route) { r.Discard, r.Hop, r.Iface = true, 0, "" })
	look(true, func(r *api.Route) { r.Hop, r.Iface = 0, "" })
	look(true, func(r *api.Route) { r.Hop = 0 })
}

// P8.2: each way of an advert not to be written; any addresses and any lists may.
func TestAdvertTextRefused(t *testing.T) {
	look := func(may bool, change func(a *api.Advert)) {
		t.Helper()
		a := api.Advert{Prefix: ten, Hop: 1, Pref: 2, Metric: 3, Path: []uint32{4}, Comm: []uint32{5}, Peer: 6, PeerID: 7, External: true, Origin: 8, Clusters: []api.Addr{9}, Session: 10}
		change(&a)
		s, e := routes.AdvertText(a)
		if may && (s == "" || e != api.OK) || !may && (s != "" || e != api.ErrArg) {
			t.Errorf("AdvertText(%v): %q %v", a, s, e)
		}
	}
	for _, p := range prefixes {
		look(addr.Check(p) == api.OK, func(a *api.Advert) { a.Prefix = p })
	}
	for _, n := range append(numbers, math.MaxUint32, math.MaxUint32+1, math.MaxUint32+6) {
		may := n >= 0 && n <= 1<<31-1
		look(may, func(a *api.Advert) { a.Pref = n })
		look(may, func(a *api.Advert) { a.Metric = n })
		look(may || n == -1, func(a *api.Advert) { a.Session = n })
	}
	for _, x := range addresses {
		look(true, func(a *api.Advert) { a.Hop = x })
		look(true, func(a *api.Advert) { a.Peer = x })
		look(true, func(a *api.Advert) { a.PeerID = x })
		look(true, func(a *api.Advert) { a.Origin = x })
	}
	look(true, func(a *api.Advert) { a.Path = make([]uint32, 10*api.MaxPath) })
	look(true, func(a *api.Advert) { a.Path, a.Comm, a.Clusters = nil, []uint32{}, nil })
	look(true, func(a *api.Advert) { a.External = false })
}
