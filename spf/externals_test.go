package spf_test

import (
	"slices"
	"testing"

	"waymark/api"
	"waymark/spf"
)

// star is a device a, linked at the costs with others b, c, d and on, by 10.0.k.0/24.
func star(costs ...int) []api.Device {
	list := []api.Device{router("a", 100)}
	for k, cost := range costs {
		name := string(rune('b' + k))
		list[0].Ifaces = append(list[0].Ifaces, on(name, 0, k, 1, 24, 0, cost))
		list = append(list, router(name, api.Addr(k+1), on("e0", 0, k, 2, 24, 0, 1)))
	}
	return list
}

// taken is 9.0.0.0/8, taken over by a device.
func taken(device int, kind uint8, metric, tag int) api.Taken {
	return api.Taken{Device: device, Prefix: api.Prefix{Addr: 0x09000000, Bits: 8}, Metric: metric, Type: kind, Tag: tag}
}

// routed are a's routes to 9.0.0.0/8 by some of those of a star.
func routed(from uint8, metric, tag int, by ...int) []api.Route {
	var list []api.Route
	for _, k := range by {
		list = append(list, api.Route{Prefix: api.Prefix{Addr: 0x09000000, Bits: 8}, From: from, Dist: 110, Metric: metric, Tag: tag, Iface: string(rune('a' + k)), Hop: api.Addr(0x0A000002 + (k-1)<<8)})
	}
	return list
}

// P18.2: which of what is taken over is gone by.
func TestExternals(t *testing.T) {
	x := made(t, star(1, 2, 3, 3))
	for i, k := range []struct {
		ext  []api.Taken
		want []api.Route
	}{
		// The least sum, and all that have it, with the least tag of these.
		{[]api.Taken{taken(1, 1, 5, 7)}, routed(api.External1, 6, 7, 1)},
		{[]api.Taken{taken(1, 1, 5, 7), taken(2, 1, 5, 1)}, routed(api.External1, 6, 7, 1)},
		{[]api.Taken{taken(1, 1, 5, 7), taken(2, 1, 3, 9)}, routed(api.External1, 5, 9, 2)},
		{[]api.Taken{taken(1, 1, 5, 7), taken(2, 1, 4, 8), taken(3, 1, 3, 6), taken(4, 1, 4, 1)}, routed(api.External1, 6, 6, 1, 2, 3)},
		// The least metric, of these the least way, and all that have it, with the least tag of these.
		{[]api.Taken{taken(3, 2, 5, 7)}, routed(api.External2, 5, 7, 3)},
		{[]api.Taken{taken(1, 2, 6, 1), taken(3, 2, 5, 7)}, routed(api.External2, 5, 7, 3)},
		{[]api.Taken{taken(2, 2, 5, 9), taken(3, 2, 5, 7)}, routed(api.External2, 5, 9, 2)},
		{[]api.Taken{taken(1, 2, 6, 1), taken(4, 2, 5, 8), taken(3, 2, 5, 9)}, routed(api.External2, 5, 8, 3, 4)},
		// External1 ahead, whatever it costs.
		{[]api.Taken{taken(1, 2, 0, 0), taken(4, 1, 1<<24, 9)}, routed(api.External1, 1<<24+3, 9, 4)},
		// The same device twice, the same thing twice.
		{[]api.Taken{taken(1, 1, 5, 7), taken(1, 1, 5, 3), taken(1, 1, 6, 1)}, routed(api.External1, 6, 3, 1)},
		{[]api.Taken{taken(1, 2, 5, 7), taken(1, 2, 5, 7), taken(1, 2, 6, 1)}, routed(api.External2, 5, 7, 1)},
		// What a itself takes over is nothing to it.
		{[]api.Taken{taken(0, 1, 0, 1)}, nil},
		{[]api.Taken{taken(0, 1, 0, 1), taken(0, 2, 0, 1), taken(4, 2, 5, 7)}, routed(api.External2, 5, 7, 4)},
		{nil, nil},
	} {
		for range 2 {
			if got := table(t, x, 0, k.ext...); !slices.Equal(got, k.want) {
				t.Error(i, got)
			}
			slices.Reverse(k.ext)
		}
	}
}

// P18.2: a subnet that is there inside is no external, Intra or Inter; what nobody has a way to is none either.
func TestOutside(t *testing.T) {
	for area, from := range []uint8{api.Intra, api.Inter} {
		l := star(1, 2)
		l[1].Ifaces = append(l[1].Ifaces, api.Iface{Name: "lan", Addr: 0x09000001, Bits: 8, Area: area, Cost: 50})
		if got := table(t, made(t, l), 0, taken(2, 1, 0, 0), taken(2, 2, 0, 0)); !slices.Equal(got, routed(from, 51, 0, 1)) {
			t.Error(got)
		}
	}
	l := star(1, 2)
	l[1].Ifaces[0].Passive = true
	if got := table(t, made(t, l), 0, taken(1, 1, 0, 0), taken(2, 2, 0, 0)); !slices.Equal(got, routed(api.External2, 0, 0, 2)) {
		t.Error(got)
	}
	l[1].Ifaces[0].Area = -1
	if got := table(t, made(t, l), 0, taken(1, 1, 0, 0)); len(got) != 0 {
		t.Error(got)
	}
	// What is taken over by an instance without areas, and for one without: it is nobody's, and an instance it is.
	l[0].Ifaces = l[0].Ifaces[:0]
	if got := table(t, made(t, l), 0, taken(1, 1, 0, 0), taken(2, 1, 0, 0)); len(got) != 0 {
		t.Error(got)
	}
}

// P18.2: by the place among the device's OSPF it is told who takes over, and each other instance of the device is another one.
func TestTakenBy(t *testing.T) {
	a := router("a", 1, on("e0", 0, 0, 1, 24, 0, 5), inVRF("red", on("e1", 0, 0, 2, 24, 0, 6)))
	a.VRFs = []string{"red"}
	a.OSPF = []api.OSPF{{VRF: "red", ID: 2}, {ID: 3}}
	x := made(t, []api.Device{a, router("b", 4, on("e0", 0, 0, 3, 24, 0, 7))})
	ext := taken(0, 1, 10, 4)
	want := api.Route{Prefix: ext.Prefix, From: api.External1, Dist: 110, Tag: 4}
	for _, k := range []struct {
		instance int
		metrics  [3]int // of a's "", a's red, b
		hop      api.Addr
	}{{0, [3]int{22, 0, 17}, 0x0A000002}, {1, [3]int{0, 23, 17}, 0x0A000001}} {
		ext.Instance = k.instance
		for i, metric := range k.metrics {
			got := table(t, x, i, ext)
			if metric == 0 {
				if len(got) != 0 {
					t.Error(k, i, got)
				}
				continue
			}
			want.Metric, want.Iface, want.Hop = metric, []string{"e0", "e1", "e0"}[i], 0x0A000003
			if i == 2 {
				want.Hop = k.hop
			}
			if !slices.Equal(got, []api.Route{want}) {
				t.Error(k, i, got)
			}
		}
	}
}

// P18.2: externals through areas: the way is Inter, and Intra ahead of it where it costs more.
func TestTakenThrough(t *testing.T) {
	l := line(1, 0, 2)
	for kind, metric := range map[uint8]int{1: 35, 2: 5} {
		got := table(t, made(t, l), 0, taken(3, kind, 5, 6))
		want := api.Route{Prefix: taken(0, 0, 0, 0).Prefix, From: api.External1 + kind - 1, Dist: 110, Metric: metric, Tag: 6, Iface: "right", Hop: 0x0A000002}
		if !slices.Contains(got, want) {
			t.Error(got)
		}
	}
	// d is beside a in the area 3, too, but at a cost above all: that is Intra.
	l[0].Ifaces = append(l[0].Ifaces, on("three", 7, 0, 1, 24, 3, 1000))
	l[3].Ifaces = append(l[3].Ifaces, on("three", 7, 0, 2, 24, 3, 1))
	x := made(t, l)
	if got := way(t, x, 0, 3); got != (spf.Cost{From: api.Intra, Metric: 1000}) {
		t.Error(got)
	}
	want := api.Route{Prefix: taken(0, 0, 0, 0).Prefix, From: api.External1, Dist: 110, Metric: 1005, Tag: 6, Iface: "three", Hop: 0x0A070002}
	if got := table(t, x, 0, taken(3, 1, 5, 6)); !slices.Contains(got, want) || got[0] != want || got[1].Prefix == want.Prefix {
		t.Error(got)
	}
}
