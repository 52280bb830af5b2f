package topo_test

import (
	"math"
	"math/rand"
	"slices"
	"strconv"
	"testing"

	"waymark/api"
	"waymark/model"
	"waymark/probe"
	"waymark/topo"
)

// at is an interface with an address of 10.0.0.0/16.
func at(name string, third, fourth, bits int) api.Iface {
	return api.Iface{Name: name, Addr: api.Addr(0x0A000000 + third*256 + fourth), Bits: bits, Area: -1, Cost: 1}
}

// with is a device with these interfaces.
func with(name string, list ...api.Iface) api.Device {
	return api.Device{Name: name, Kind: api.Flat, Ifaces: list}
}

// speaks is a device with a BGP instance of an AS and these neighbours.
func speaks(d api.Device, as uint32, peers ...api.Peer) api.Device {
	d.BGP = append(d.BGP, api.BGP{AS: as, ID: api.Addr(as), Peers: peers})
	return d
}

// chapter are the chapter's devices.
func chapter() []api.Device {
	return []api.Device{
		speaks(with("c", at("e0", 0, 3, 25)), 3),
		speaks(with("a", at("e0", 0, 1, 24)), 1, api.Peer{Addr: 0x0A000002, AS: 2}),
		speaks(with("b", at("e0", 0, 2, 24)), 2, api.Peer{Addr: 0x0A000001, AS: 1}),
	}
}

func made(t *testing.T, l []api.Device) *topo.Topo {
	t.Helper()
	x, e := topo.New(l)
	if x == nil || e != api.OK {
		t.Fatal(x, e)
	}
	return x
}

// place is a place, by its numbers.
func place(device, iface int) api.Place { return api.Place{Device: device, Iface: iface} }

// P17.1, P17.2, P17.3: the chapter's examples.
func TestKnown(t *testing.T) {
	x := made(t, chapter())
	if l := x.Links(); !slices.Equal(l, [][2]api.Place{{place(0, 0), place(1, 0)}}) {
		t.Error(l)
	}
	if l, e := x.Linked(place(2, 0)); len(l) != 0 || e != api.OK {
		t.Error(l, e)
	}
	if l, e := x.Linked(place(1, 0)); !slices.Equal(l, []api.Place{place(0, 0)}) || e != api.OK {
		t.Error(l, e)
	}
	if l, e := x.Linked(place(3, 0)); len(l) != 0 || e != api.ErrArg {
		t.Error(l, e)
	}
	if p, e := x.Owner(0x0A000002); p != place(1, 0) || e != api.OK {
		t.Error(p, e)
	}
	if p, e := x.Owner(0x09090909); p != place(0, 0) || e != api.ErrNone {
		t.Error(p, e)
	}
	both := []api.Session{{FarDevice: 1, External: true}, {Device: 1, External: true}}
	if l := x.Sessions(); !slices.Equal(l, both) {
		t.Error(l)
	}
	l := chapter()
	l[0].BGP[0].Peers = []api.Peer{{Addr: 0x0A000001, AS: 1}}
	if l := made(t, l).Sessions(); !slices.Equal(l, both) {
		t.Error(l)
	}
}

// P17.1: the snapshot in its form, and each of its interfaces.
func TestDevices(t *testing.T) {
	l := chapter()
	l[1].Ifaces = append(l[1].Ifaces, at("b9", 7, 1, 24), api.Iface{Name: "a9", Area: -1, Cost: 5})
	x := made(t, l)
	want, _, _ := model.Snapshot(l)
	if got := x.Devices(); !alike(got, want) || got[0].Name != "a" || got[0].Ifaces[0].Name != "a9" || got[2].Name != "c" {
		t.Error(got)
	}
	for _, p := range plainPlaces(want) {
		if got, e := x.Iface(p); got != want[p.Device].Ifaces[p.Iface] || e != api.OK {
			t.Error(p, got, e)
		}
	}
	for _, p := range nowhere(3, 3) {
		if got, e := x.Iface(p); got != (api.Iface{}) || e != api.ErrArg {
			t.Error(p, got, e)
		}
		if got, e := x.Linked(p); len(got) != 0 || e != api.ErrArg {
			t.Error(p, got, e)
		}
	}
	none := made(t, nil)
	if _, e := none.Iface(api.Place{}); e != api.ErrArg || len(none.Devices())+len(none.Links())+len(none.Sessions()) != 0 {
		t.Error(e)
	}
}

// nowhere are places that are none, where there are so many devices, and the first has so many interfaces, the second one.
func nowhere(devices, first int) []api.Place {
	list := []api.Place{place(0, first), place(1, 1), place(-1, first), place(devices, -1)}
	for _, n := range []int{math.MinInt, -1, devices, devices + 1, math.MaxInt} {
		list = append(list, place(n, 0))
	}
	for _, n := range []int{math.MinInt, -1, first, first + 1, math.MaxInt} {
		list = append(list, place(0, n))
	}
	return list
}

// P17.1: devices that are no snapshot, in whatever order, and whatever Check has against them.
func TestRefused(t *testing.T) {
	twice := append(chapter(), with("d", at("e0", 0, 1, 8)))
	named := append(chapter(), with("a"))
	wrong, ref := chapter(), chapter()
	wrong[1].Kind = 3
	ref[1].Ifaces[0].VRF = "red"
	id := append(chapter(), speaks(with("d"), 1))
	var many []api.Device
	for i := range api.MaxDevices + 1 {
		many = append(many, with("r"+strconv.Itoa(i), at("e0", i, 1, 24)))
	}
	for _, l := range [][]api.Device{twice, named, wrong, ref, id, many, {{}}} {
		for range 2 {
			slices.Reverse(l)
			if x, e := topo.New(l); x != nil || e != api.ErrModel {
				t.Error(x, e)
			}
		}
	}
	if got := len(made(t, many[1:]).Devices()); got != api.MaxDevices {
		t.Error(got)
	}
}

// R1, P17.1: of nil, and of none that New made.
func TestNil(t *testing.T) {
	var x *topo.Topo
	if len(x.Devices())+len(x.Links())+len(x.Sessions()) != 0 {
		t.Error(x.Devices(), x.Links(), x.Sessions())
	}
	for _, p := range []api.Place{{}, place(-1, 0)} {
		if i, e := x.Iface(p); i != (api.Iface{}) || e != api.ErrNil {
			t.Error(i, e)
		}
		if l, e := x.Linked(p); len(l) != 0 || e != api.ErrNil {
			t.Error(l, e)
		}
	}
	if p, e := x.Owner(1); p != (api.Place{}) || e != api.ErrNil {
		t.Error(p, e)
	}
	x = new(topo.Topo)
	x.Devices()
	x.Links()
	x.Sessions()
	x.Iface(api.Place{})
	x.Linked(api.Place{})
	x.Owner(0)
}

// P17.1: which are alive, and of what subnet.
func TestAliveSubnet(t *testing.T) {
	r := rand.New(rand.NewSource(171))
	for _, x := range []api.Iface{{}, {Down: true}, {Name: "e0", Area: 1, Cost: 1}} {
		if topo.Alive(x) || topo.Subnet(x) != (api.Prefix{}) {
			t.Error(x)
		}
	}
	for range 5000 {
		x := api.Iface{Addr: api.Addr(r.Uint32() | 1), Bits: 1 + r.Intn(32), Down: r.Intn(2) == 0, Area: r.Intn(3) - 1, Passive: r.Intn(2) == 0}
		want := api.Prefix{Addr: api.Addr(plainSubnet(x)[0]), Bits: x.Bits}
		if topo.Alive(x) != plainAlive(x) || topo.Subnet(x) != want {
			t.Fatal(x, topo.Alive(x), topo.Subnet(x))
		}
	}
	for _, bits := range []int{math.MinInt, -1, 33, math.MaxInt} {
		if s := topo.Subnet(api.Iface{Addr: 5, Bits: bits}); s != (api.Prefix{}) {
			t.Error(bits, s)
		}
	}
}

// agree looks whether a topo tells of a snapshot what the plain reckoning does.
func agree(t *testing.T, x *topo.Topo, l []api.Device) {
	t.Helper()
	if got := x.Devices(); !alike(got, l) {
		t.Error("devices", got)
	}
	if got, want := x.Links(), plainLinks(l); !slices.Equal(got, want) {
		t.Error("links", got, want)
	}
	if got, want := x.Sessions(), plainSessions(l); !slices.Equal(got, want) {
		t.Error("sessions", got, want)
	}
	owners := map[api.Addr]api.Place{}
	for _, p := range plainPlaces(l) {
		var want []api.Place
		for _, q := range plainPlaces(l) {
			if plainLinked(l, p, q) {
				want = append(want, q)
			}
		}
		if got, e := x.Linked(p); !slices.Equal(got, want) || e != api.OK {
			t.Error("linked", p, got, want, e)
		}
		if i := l[p.Device].Ifaces[p.Iface]; plainAlive(i) {
			owners[i.Addr] = p
		}
	}
	for a := api.Addr(0x0A000000); a < 0x0A000300; a++ {
		want, is := owners[a]
		if got, e := x.Owner(a); got != want || (e == api.OK) != is || e != api.OK && e != api.ErrNone {
			t.Error("owner", a, got, e)
		}
	}
}

// P17.2, P17.3: all that is told of networks of all kinds.
func TestNetworks(t *testing.T) {
	r := rand.New(rand.NewSource(172))
	links, inside, outside, within := 0, 0, 0, 0
	for round := range 1500 {
		l, _, _ := model.Snapshot(probe.Network(r.Intn, 1+round%6))
		x := made(t, l)
		agree(t, x, l)
		links += len(x.Links())
		for _, s := range x.Sessions() {
			switch {
			case s.External:
				outside++
			case s.Device == s.FarDevice:
				within++
			default:
				inside++
			}
		}
		if t.Failed() {
			t.Fatal(l)
		}
	}
	if links < 3000 || inside < 500 || outside < 300 || within < 20 {
		t.Error(links, inside, outside, within)
	}
}

// P17.2: the edges: subnets of 31 and of 32 bits, of the same first address, of one device, those that are not alive, VRFs.
func TestLinksEdges(t *testing.T) {
	down := at("e4", 4, 3, 24)
	down.Down = true
	red := at("e5", 5, 2, 24)
	red.VRF = "red"
	a := with("a", at("e0", 0, 0, 31), at("e1", 1, 0, 32), at("e2", 2, 1, 24), at("e3", 2, 2, 24), at("e4", 4, 1, 24), at("e5", 5, 1, 24), at("e6", 6, 0, 24))
	b := with("b", at("e0", 0, 1, 31), at("e1", 1, 1, 32), at("e2", 2, 3, 25), down, red, at("e6", 6, 255, 24), api.Iface{Name: "e7", Area: -1, Cost: 1})
	b.VRFs = []string{"red"}
	c := with("c", at("e0", 2, 4, 25), at("e1", 2, 250, 25), at("e2", 2, 130, 24), api.Iface{Name: "e7", Area: -1, Cost: 1})
	x := made(t, []api.Device{a, b, c})
	want := [][2]api.Place{
		{place(0, 0), place(1, 0)},
		{place(0, 2), place(2, 2)},
		{place(0, 3), place(2, 2)},
		{place(0, 5), place(1, 4)},
		{place(0, 6), place(1, 5)},
		{place(1, 2), place(2, 0)},
	}
	if got := x.Links(); !slices.Equal(got, want) {
		t.Error(got)
	}
	if p, e := x.Owner(down.Addr); p != (api.Place{}) || e != api.ErrNone {
		t.Error(p, e)
	}
	if p, e := x.Owner(0); p != (api.Place{}) || e != api.ErrNone {
		t.Error(p, e)
	}
	if p, e := x.Owner(red.Addr); p != place(1, 4) || e != api.OK {
		t.Error(p, e)
	}
	// The whole of all addresses may be a subnet's half, of one bit.
	wide := made(t, []api.Device{with("a", at("e0", 0, 1, 1)), with("b", api.Iface{Name: "e0", Addr: 0x7FFFFFFF, Bits: 1, Area: -1, Cost: 1}), with("c", api.Iface{Name: "e0", Addr: 0x80000000, Bits: 1, Area: -1, Cost: 1})})
	if got := wide.Links(); !slices.Equal(got, [][2]api.Place{{place(0, 0), place(1, 0)}}) {
		t.Error(got)
	}
}

// P17.4: links lead both ways, not within a device, from one to the next, between those that are alive alone.
func TestBothWays(t *testing.T) {
	r := rand.New(rand.NewSource(174))
	three := 0
	for range 400 {
		x := made(t, probe.Network(r.Intn, 2+r.Intn(5)))
		linked := map[[2]api.Place]bool{}
		beside := map[api.Place][]api.Place{}
		for _, p := range plainPlaces(x.Devices()) {
			l, _ := x.Linked(p)
			if !slices.IsSortedFunc(l, cmpPlaces) || len(slices.Compact(slices.Clone(l))) != len(l) {
				t.Error(p, l)
			}
			i, _ := x.Iface(p)
			for _, q := range l {
				k, _ := x.Iface(q)
				if q.Device == p.Device || !topo.Alive(i) || !topo.Alive(k) {
					t.Error(p, q)
				}
				linked[[2]api.Place{p, q}] = true
			}
			beside[p] = l
		}
		for pair := range linked {
			if !linked[[2]api.Place{pair[1], pair[0]}] {
				t.Error(pair)
			}
			for _, q := range beside[pair[1]] {
				if q.Device != pair[0].Device && q.Device != pair[1].Device {
					three++
					if !linked[[2]api.Place{pair[0], q}] {
						t.Error(pair, q)
					}
				}
			}
		}
		links := x.Links()
		for i, pair := range links {
			if cmpPlaces(pair[0], pair[1]) >= 0 || !linked[pair] || i > 0 && cmpPlaces(links[i-1][0], pair[0]) > 0 {
				t.Error(i, pair)
			}
		}
		if 2*len(links) != len(linked) {
			t.Error(len(links), len(linked))
		}
	}
	if three < 1000 {
		t.Error(three)
	}
}

// P17.6: in whatever order the devices, and what their form puts in order, stand.
func TestNoOrder(t *testing.T) {
	r := rand.New(rand.NewSource(176))
	for range 300 {
		l := probe.Network(r.Intn, 2+r.Intn(5))
		x := made(t, l)
		r.Shuffle(len(l), func(i, k int) { l[i], l[k] = l[k], l[i] })
		for i := range l {
			f := l[i].Ifaces
			r.Shuffle(len(f), func(i, k int) { f[i], f[k] = f[k], f[i] })
			slices.Reverse(l[i].VRFs)
		}
		y := made(t, l)
		if !alike(x.Devices(), y.Devices()) || !slices.Equal(x.Links(), y.Links()) || !slices.Equal(x.Sessions(), y.Sessions()) {
			t.Fatal(l)
		}
	}
}
