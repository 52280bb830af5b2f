package spf_test

import (
	"slices"
	"testing"

	"waymark/api"
	"waymark/spf"
)

// P18.2: a route for each first hop of each way that costs the least.
func TestHops(t *testing.T) {
	// a is linked with b twice on one subnet and once on another one, with c on the latter; both have the lan.
	a := router("a", 1, on("e0", 0, 0, 1, 24, 0, 4), on("e1", 0, 0, 2, 24, 0, 4), on("e2", 0, 1, 1, 24, 0, 4))
	b := router("b", 2, on("e0", 0, 0, 3, 24, 0, 9), on("e1", 0, 0, 4, 24, 0, 1), on("e2", 0, 1, 2, 24, 0, 1), silent(on("lan", 1, 0, 1, 24, 0, 2)))
	c := router("c", 3, on("e2", 0, 1, 3, 24, 0, 1), silent(on("lan", 1, 0, 2, 24, 0, 2)))
	l := []api.Device{a, b, c}
	lan := api.Route{Prefix: ten(1, 0, 0, 24), From: api.Intra, Dist: 110, Metric: 6}
	by := func(hops ...api.Route) []api.Route {
		var list []api.Route
		for _, h := range hops {
			r := lan
			r.Iface, r.Hop = h.Iface, h.Hop
			list = append(list, r)
		}
		return list
	}
	all := []api.Route{{Iface: "e0", Hop: 0x0A000003}, {Iface: "e1", Hop: 0x0A000003}, {Iface: "e0", Hop: 0x0A000004}, {Iface: "e1", Hop: 0x0A000004}, {Iface: "e2", Hop: 0x0A000102}, {Iface: "e2", Hop: 0x0A000103}}
	if got := table(t, made(t, l), 0); !slices.Equal(got, by(all...)) {
		t.Error(got)
	}
	l[0].Ifaces[1].Cost = 5
	if got := table(t, made(t, l), 0); !slices.Equal(got, by(all[0], all[2], all[4], all[5])) {
		t.Error(got)
	}
	l[0].Ifaces[0].Cost = 5
	if got := table(t, made(t, l), 0); !slices.Equal(got, by(all[4], all[5])) {
		t.Error(got)
	}
	l[2].Ifaces[1].Cost = 3
	if got := table(t, made(t, l), 0); !slices.Equal(got, by(all[4])) {
		t.Error(got)
	}
	l[2].Ifaces[1].Area = 1
	l[1].Ifaces[3].Area = 1
	lan.From = api.Inter
	if got := table(t, made(t, l), 0); !slices.Equal(got, by(all[4])) {
		t.Error(got)
	}
	l[2].Ifaces[1].Cost = 2
	if got := table(t, made(t, l), 0); !slices.Equal(got, by(all[4], all[5])) {
		t.Error(got)
	}
}

// P18.2: ways through several areas, for who is not in the area 0; ways through the area 0 alone, for who is.
func TestThrough(t *testing.T) {
	// b and c are borders that have the lan in the area 0; a is linked with b in the area 1, with c in 2.
	a := router("a", 1, on("e1", 0, 1, 1, 24, 1, 5), on("e2", 0, 2, 1, 24, 2, 5))
	b := router("b", 2, on("e1", 0, 1, 2, 24, 1, 1), silent(on("lan", 1, 0, 2, 24, 0, 3)))
	c := router("c", 3, on("e2", 0, 2, 3, 24, 2, 1), silent(on("lan", 1, 0, 3, 24, 0, 3)))
	lan := api.Route{Prefix: ten(1, 0, 0, 24), From: api.Inter, Dist: 110, Metric: 8, Iface: "e1", Hop: 0x0A000102}
	also := lan
	also.Iface, also.Hop = "e2", 0x0A000203
	l := []api.Device{a, b, c}
	if got := table(t, made(t, l), 0); !slices.Equal(got, []api.Route{lan, also}) {
		t.Error(got)
	}
	// With an interface in the area 0, linked with nobody, it looks there alone, and is told nothing.
	l[0].Ifaces = append(l[0].Ifaces, silent(on("zero", 3, 0, 1, 24, 0, 1)))
	if got := table(t, made(t, l), 0); len(got) != 0 {
		t.Error(got)
	}
	// Linked there with b: by that alone, though by the area 1 it would cost less.
	l[0].Ifaces[2].Passive = false
	l[0].Ifaces[2].Cost = 100
	l[1].Ifaces[1].Area = 4
	l[1].Ifaces = append(l[1].Ifaces, on("zero", 3, 0, 2, 24, 0, 1))
	lan.Metric, lan.Iface, lan.Hop = 103, "zero", 0x0A030002
	if got := table(t, made(t, l), 0); !slices.Equal(got, []api.Route{lan}) {
		t.Error(got)
	}
}

// P18.2: no route to what is the subnet of an alive interface of the VRF, in whatever area, of whatever length.
func TestOwn(t *testing.T) {
	lan := on("lan", 1, 0, 2, 24, 0, 3)
	for what, k := range map[string]struct {
		iface api.Iface
		want  int
	}{
		"in the area": {on("own", 1, 0, 1, 24, 0, 9), 0},
		"no area":     {on("own", 1, 0, 1, 24, -1, 9), 0},
		"other bits":  {on("own", 1, 0, 1, 25, -1, 9), 1},
		"other VRF":   {inVRF("red", on("own", 1, 0, 1, 24, -1, 9)), 1},
		"down":        {api.Iface{Name: "own", Addr: 0x0A010001, Bits: 24, Area: 0, Cost: 9, Down: true}, 1},
		"no address":  {api.Iface{Name: "own", Area: 0, Cost: 9}, 1},
	} {
		a := router("a", 1, on("e0", 0, 0, 1, 24, 0, 1), silent(k.iface))
		a.VRFs = []string{"red"}
		x := made(t, []api.Device{a, router("b", 2, on("e0", 0, 0, 2, 24, 0, 1), silent(lan))})
		if got := table(t, x, 0); len(got) != k.want {
			t.Error(what, got)
		}
		// The same where it is taken over.
		x = made(t, []api.Device{a, router("b", 2, on("e0", 0, 0, 2, 24, 0, 1))})
		if got := table(t, x, 0, api.Taken{Device: 1, Prefix: subnet(lan), Type: 1}, api.Taken{Device: 1, Prefix: subnet(lan), Type: 2}); len(got) != k.want {
			t.Error(what, got)
		}
	}
	// One address: no link, but a subnet as others are.
	l := []api.Device{router("a", 1, on("e0", 0, 0, 1, 31, 0, 1)), router("b", 2, on("e0", 0, 0, 0, 31, 0, 1), on("lo", 2, 0, 1, 32, 0, 6))}
	if got := table(t, made(t, l), 0); !slices.Equal(got, []api.Route{{Prefix: ten(2, 0, 1, 32), From: api.Intra, Dist: 110, Metric: 7, Iface: "e0", Hop: 0x0A000000}}) {
		t.Error(got)
	}
}

// P18.2: each kind of device has its Dist for each kind of route (S2).
func TestDist(t *testing.T) {
	ext := []api.Taken{{Device: 1, Prefix: ten(8, 0, 0, 16), Type: 1}, {Device: 1, Prefix: ten(9, 0, 0, 16), Type: 2}}
	for kind, want := range map[uint8][]int{api.Flat: {110, 110, 110, 110}, api.Nested: {10, 10, 150, 150}} {
		a := router("a", 1, on("e0", 0, 0, 1, 24, 0, 1))
		a.Kind = kind
		b := router("b", 2, on("e0", 0, 0, 2, 24, 0, 1), on("e1", 1, 0, 2, 24, 0, 1), on("e2", 2, 0, 2, 24, 1, 1))
		b.Kind = api.Flat + api.Nested - kind
		got := table(t, made(t, []api.Device{a, b}), 0, ext...)
		if len(got) != 4 {
			t.Fatal(got)
		}
		for i, r := range got {
			if r.Dist != want[i] || r.From != api.Intra+uint8(i) {
				t.Error(kind, r)
			}
		}
	}
}

// P18.2: a table for each instance, in order, also for those without routes.
func TestTables(t *testing.T) {
	a := router("a", 1, on("e0", 0, 0, 1, 24, 0, 1), inVRF("blue", on("e1", 0, 1, 1, 24, 0, 1)))
	a.VRFs = []string{"red", "blue"}
	a.OSPF = []api.OSPF{{VRF: "red", ID: 4}, {VRF: "blue", ID: 5}, {ID: 6}}
	b := router("b", 2, on("e0", 0, 1, 2, 24, 0, 1), on("lan", 1, 0, 1, 24, 0, 1))
	got, e := spf.Routes(made(t, []api.Device{b, a}), nil)
	if e != api.OK || len(got) != 4 {
		t.Fatal(got, e)
	}
	for i, want := range []api.Table{{Device: 0, VRF: ""}, {Device: 0, VRF: "blue"}, {Device: 0, VRF: "red"}, {Device: 1, VRF: ""}} {
		if got[i].Device != want.Device || got[i].VRF != want.VRF || len(got[i].Routes) != []int{0, 1, 0, 0}[i] {
			t.Error(got[i])
		}
	}
	if got[1].Routes[0] != (api.Route{Prefix: ten(1, 0, 0, 24), From: api.Intra, Dist: 110, Metric: 2, Iface: "e1", Hop: 0x0A000102}) {
		t.Error(got[1])
	}
	if got, e := spf.Routes(made(t, nil), nil); len(got) != 0 || e != api.OK {
		t.Error(got, e)
	}
}
