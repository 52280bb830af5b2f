package spf_test

import (
	"math/rand"
	"reflect"
	"slices"
	"testing"

	"waymark/api"
	"waymark/routes"
	"waymark/spf"
	"waymark/topo"
)

// on is an interface with an address of 10.0.0.0/8 in an area.
func on(name string, second, third, fourth, bits, area, cost int) api.Iface {
	return api.Iface{Name: name, Addr: api.Addr(0x0A000000 + second<<16 + third<<8 + fourth), Bits: bits, Area: area, Cost: cost}
}

// silent is an interface made Passive.
func silent(x api.Iface) api.Iface {
	x.Passive = true
	return x
}

// inVRF is an interface put into a VRF.
func inVRF(vrf string, x api.Iface) api.Iface {
	x.VRF = vrf
	return x
}

// router is a device with an instance and these interfaces.
func router(name string, id api.Addr, list ...api.Iface) api.Device {
	return api.Device{Name: name, Kind: api.Flat, OSPF: []api.OSPF{{ID: id}}, Ifaces: list}
}

// ten is a prefix of 10.0.0.0/8.
func ten(second, third, fourth, bits int) api.Prefix {
	return api.Prefix{Addr: api.Addr(0x0A000000 + second<<16 + third<<8 + fourth), Bits: bits}
}

// chapter are the chapter's devices, with the link of b and c, and c's lan, in areas.
func chapter(link, lan int) []api.Device {
	return []api.Device{
		router("c", 3, on("e1", 0, 1, 2, 30, link, 7), silent(on("lan", 2, 0, 1, 24, lan, 1))),
		router("a", 1, on("e0", 0, 0, 1, 30, 0, 10)),
		router("b", 2, on("e0", 0, 0, 2, 30, 0, 10), on("e1", 0, 1, 1, 30, link, 5)),
	}
}

// way is what Way tells, or nothing where there is none.
func way(t *testing.T, x *topo.Topo, from, to int) spf.Cost {
	t.Helper()
	c, e := spf.Way(x, from, to)
	if e != api.OK && e != api.ErrNone || e == api.ErrNone && c != (spf.Cost{}) {
		t.Error(from, to, c, e)
	}
	return c
}

// costs is what Costs tells.
func costs(t *testing.T, x *topo.Topo, i int) []spf.Cost {
	t.Helper()
	l, e := spf.Costs(x, i)
	if e != api.OK {
		t.Error(i, l, e)
	}
	return l
}

// table is the routes that Routes tells of an instance.
func table(t *testing.T, x *topo.Topo, i int, ext ...api.Taken) []api.Route {
	t.Helper()
	l, e := spf.Routes(x, ext)
	if e != api.OK || i >= len(l) {
		t.Fatal(i, l, e)
	}
	return l[i].Routes
}

// P18.1: the chapter's first two examples.
func TestChapter(t *testing.T) {
	for _, k := range []struct {
		link, lan int
		from      uint8
	}{{0, 0, api.Intra}, {1, 1, api.Inter}} {
		x := made(t, chapter(k.link, k.lan))
		want := []spf.Cost{{Prefix: ten(0, 0, 0, 30), From: api.Intra, Metric: 10}, {Prefix: ten(0, 1, 0, 30), From: k.from, Metric: 15}, {Prefix: ten(2, 0, 0, 24), From: k.from, Metric: 16}}
		if got := costs(t, x, 0); !slices.Equal(got, want) {
			t.Error(got)
		}
		if got := way(t, x, 0, 2); got != (spf.Cost{From: k.from, Metric: 15}) {
			t.Error(got)
		}
		if got := way(t, x, 2, 0); got != (spf.Cost{From: k.from, Metric: 17}) {
			t.Error(got)
		}
		routes := []api.Route{
			{Prefix: ten(0, 1, 0, 30), From: k.from, Dist: 110, Metric: 15, Iface: "e0", Hop: 0x0A000002},
			{Prefix: ten(2, 0, 0, 24), From: k.from, Dist: 110, Metric: 16, Iface: "e0", Hop: 0x0A000002},
		}
		if got := table(t, x, 0); !slices.Equal(got, routes) {
			t.Error(got)
		}
	}
	// The lan stays in the area 0, of which c has but that Passive one: nobody there hears of it.
	x := made(t, chapter(1, 0))
	if got := costs(t, x, 0); len(got) != 2 {
		t.Error(got)
	}
	if got := way(t, x, 0, 2); got != (spf.Cost{From: api.Inter, Metric: 15}) {
		t.Error(got)
	}
}

// P18.2: the chapter's third example.
func TestChapterTaken(t *testing.T) {
	x := made(t, chapter(0, 0))
	for _, k := range []struct {
		kind, from uint8
		metric     int
	}{{1, api.External1, 35}, {2, api.External2, 20}} {
		got := table(t, x, 0, api.Taken{Device: 2, Metric: 20, Type: k.kind, Tag: 9})
		if len(got) != 3 || got[0] != (api.Route{From: k.from, Dist: 110, Metric: k.metric, Tag: 9, Iface: "e0", Hop: 0x0A000002}) {
			t.Error(got)
		}
	}
	if l, e := spf.Routes(x, []api.Taken{{Device: 9, Metric: 20, Type: 2, Tag: 9}}); len(l) != 0 || e != api.ErrArg {
		t.Error(l, e)
	}
}

// P18.1: the instances in order, their areas and which are borders.
func TestInstances(t *testing.T) {
	down, bare := on("e4", 0, 4, 1, 24, 5, 1), api.Iface{Name: "e5", Area: 6, Cost: 1}
	down.Down = true
	a := router("a", 1, on("e0", 0, 0, 1, 24, 3, 1), silent(on("e1", 0, 1, 1, 32, 0, 1)), on("e2", 0, 2, 1, 24, 3, 1), on("e3", 0, 3, 1, 24, -1, 1), down, bare,
		inVRF("red", on("e6", 0, 6, 1, 24, 0, 1)), inVRF("blue", on("e7", 0, 7, 1, 24, 2, 1)), inVRF("blue", on("e8", 0, 8, 1, 24, 1, 1)))
	a.VRFs = []string{"red", "none", "blue", "green"}
	a.OSPF = []api.OSPF{{VRF: "red", ID: 11}, {VRF: "green", ID: 12}, {ID: 13}, {VRF: "blue", ID: 14}}
	b := router("b", 2)
	c := router("c", 0, on("e0", 1, 0, 1, 24, 0, 1))
	c.OSPF = nil
	d := router("d", 3, on("e0", 1, 1, 1, 24, 1<<24, 1), on("e1", 1, 2, 1, 24, 0, 1))
	want := []spf.Instance{
		{Device: 0, Instance: 2, Areas: []int{0, 3}, Border: true},
		{Device: 0, Instance: 3, VRF: "blue", Areas: []int{1, 2}},
		{Device: 0, Instance: 1, VRF: "green"},
		{Device: 0, Instance: 0, VRF: "red", Areas: []int{0}},
		{Device: 1, Instance: 0},
		{Device: 3, Instance: 0, Areas: []int{0, 1 << 24}, Border: true},
	}
	got := spf.Instances(made(t, []api.Device{d, c, b, a}))
	if !slices.EqualFunc(got, want, func(x, y spf.Instance) bool {
		return x.Device == y.Device && x.Instance == y.Instance && x.VRF == y.VRF && slices.Equal(x.Areas, y.Areas) && x.Border == y.Border
	}) {
		t.Error(got)
	}
	if got := spf.Instances(made(t, []api.Device{c})); len(got) != 0 {
		t.Error(got)
	}
}

// agree looks whether all that is told of a network is what the plain reckoning tells.
func agree(t *testing.T, l []api.Device, ext []api.Taken, seen map[string]int) {
	t.Helper()
	x := made(t, l)
	p := newPlain(x.Devices())
	if got := spf.Instances(x); !reflect.DeepEqual(got, p.all) && len(got)+len(p.all) > 0 {
		t.Error("instances", got, p.all)
	}
	for i := range p.all {
		for j := range p.all {
			metric, from := p.cost(i, p.instance(j))
			if got := way(t, x, i, j); got != (spf.Cost{From: from, Metric: metric}) {
				t.Error("way", i, j, got, from, metric)
			}
		}
		if got := costs(t, x, i); !slices.Equal(got, p.costs(i)) {
			t.Error("costs", i, got, p.costs(i))
		}
	}
	tables, e := spf.Routes(x, ext)
	if e != api.OK || len(tables) != len(p.all) {
		t.Fatal(e, tables)
	}
	for i, table := range tables {
		want := routes.Sort(p.routes(i, ext))
		if table.Device != p.all[i].Device || table.VRF != p.all[i].VRF || !slices.Equal(table.Routes, want) {
			t.Error("routes", i, table, want)
		}
		p.count(i, want, seen)
	}
}

// count counts what kinds of routes there are.
func (p *plain) count(i int, l []api.Route, seen map[string]int) {
	names := map[uint8]string{api.Intra: "intra", api.Inter: "inter", api.External1: "external1", api.External2: "external2"}
	for k, r := range l {
		seen[names[r.From]]++
		if k > 0 && l[k-1].Prefix == r.Prefix {
			seen["several "+names[r.From]]++
		}
		if r.From == api.Inter && !p.in(i, 0) {
			seen["through another area"]++
		}
		if r.From == api.Inter && p.all[i].Border {
			seen["of a border"]++
		}
		if p.all[i].VRF != "" {
			seen["of a VRF"]++
		}
	}
}

// P18.1, P18.2: all that is told of networks of all kinds.
func TestNetworks(t *testing.T) {
	r := rand.New(rand.NewSource(181))
	seen := map[string]int{}
	for round := range 600 {
		l := drawn(r, 1+round%8)
		agree(t, l, drawnTaken(r, newPlain(made(t, l).Devices())), seen)
		if t.Failed() {
			t.Fatalf("%+v", l)
		}
	}
	for what, least := range map[string]int{"intra": 5000, "inter": 2000, "external1": 1000, "external2": 1000, "several intra": 1000, "several inter": 300, "several external1": 200, "several external2": 200, "through another area": 1000, "of a border": 1000, "of a VRF": 2000} {
		if seen[what] < least {
			t.Error(what, seen[what])
		}
	}
}
