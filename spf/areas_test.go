package spf_test

import (
	"slices"
	"testing"

	"waymark/api"
	"waymark/spf"
)

// line are devices a, b, c and on, each linked with the next by 10.0.k.0/30 of an area, at the cost 10 to the right and 1 to the left; the last one has a lan in the last area.
func line(areas ...int) []api.Device {
	list := make([]api.Device, len(areas)+1)
	for i := range list {
		list[i] = router(string(rune('a'+i)), api.Addr(i+1))
	}
	for k, area := range areas {
		list[k].Ifaces = append(list[k].Ifaces, on("right", 0, k, 1, 30, area, 10))
		list[k+1].Ifaces = append(list[k+1].Ifaces, on("left", 0, k, 2, 30, area, 1))
	}
	last := &list[len(areas)]
	last.Ifaces = append(last.Ifaces, on("lan", 1, 0, 1, 24, areas[len(areas)-1], 3))
	return list
}

// told is a subnet's cost for an instance, or nothing.
func told(l []spf.Cost, p api.Prefix) spf.Cost {
	at := slices.IndexFunc(l, func(c spf.Cost) bool { return c.Prefix == p })
	if at < 0 {
		return spf.Cost{}
	}
	return l[at]
}

// P18.1: what is told from area to area, and what is not.
func TestLines(t *testing.T) {
	lan := ten(1, 0, 0, 24)
	for _, k := range []struct {
		areas []int
		from  []uint8 // how the devices come to the lan; 0: not at all
	}{
		{[]int{0, 0}, []uint8{3, 3, 3}},
		{[]int{5, 5}, []uint8{3, 3, 3}},
		{[]int{0, 1}, []uint8{4, 3, 3}},
		{[]int{1, 0}, []uint8{4, 3, 3}},
		{[]int{1, 2}, []uint8{0, 3, 3}},
		{[]int{1, 0, 2}, []uint8{4, 4, 3, 3}},
		{[]int{1, 0, 1}, []uint8{4, 4, 3, 3}},
		{[]int{1, 1, 0, 0, 2, 2}, []uint8{4, 4, 4, 4, 3, 3, 3}},
		// Out of the area 0 into another one, and no further: b's area 0 is not c's.
		{[]int{0, 1, 0}, []uint8{0, 0, 3, 3}},
		{[]int{0, 1, 1, 0}, []uint8{0, 0, 4, 3, 3}},
		{[]int{2, 0, 1, 0, 2}, []uint8{0, 0, 0, 4, 3, 3}},
		// Nobody but a border tells.
		{[]int{1, 2, 0}, []uint8{0, 4, 3, 3}},
		{[]int{0, 1, 2, 3}, []uint8{0, 0, 0, 3, 3}},
		{[]int{0, 1, 2}, []uint8{0, 0, 3, 3}},
	} {
		x := made(t, line(k.areas...))
		for i, from := range k.from {
			want := spf.Cost{}
			if from != 0 {
				want = spf.Cost{Prefix: lan, From: from, Metric: 10*(len(k.areas)-i) + 3}
			}
			if got := told(costs(t, x, i), lan); got != want {
				t.Error(k.areas, i, got, want)
			}
			there := spf.Cost{}
			if from != 0 {
				there = spf.Cost{From: from, Metric: 10 * (len(k.areas) - i)}
			}
			if got := way(t, x, i, len(k.areas)); got != there {
				t.Error(k.areas, i, got, there)
			}
		}
	}
}

// P18.1: of several ways the least, but Intra ahead of all; borders do not look into other areas than 0.
func TestAhead(t *testing.T) {
	// a and b are borders of the areas 0 and 1; c has a lan in the area 1 behind a, and another one in it behind d.
	a := router("a", 1, on("zero", 0, 0, 1, 24, 0, 5), on("one", 0, 1, 1, 24, 1, 100))
	b := router("b", 2, on("zero", 0, 0, 2, 24, 0, 5), on("one", 0, 2, 2, 24, 1, 1))
	c := router("c", 3, on("one", 0, 1, 3, 24, 1, 1), silent(on("lan", 1, 0, 1, 24, 1, 2)))
	d := router("d", 4, on("one", 0, 2, 4, 24, 1, 1))
	l := []api.Device{a, b, c, d}
	x := made(t, l)
	lan := ten(1, 0, 0, 24)
	// b's part of the area 1 has not the lan: b hears it from a, tells it into its part, and d goes by b.
	for i, want := range []spf.Cost{{Prefix: lan, From: api.Intra, Metric: 102}, {Prefix: lan, From: api.Inter, Metric: 107}, {Prefix: lan, From: api.Intra, Metric: 2}, {Prefix: lan, From: api.Inter, Metric: 108}} {
		if got := told(costs(t, x, i), lan); got != want {
			t.Error(i, got)
		}
	}
	// Both parts linked, at a great cost: Intra, however much it is, and b does not go by a.
	l[2].Ifaces = append(l[2].Ifaces, on("more", 0, 3, 3, 24, 1, 1000))
	l[3].Ifaces = append(l[3].Ifaces, on("more", 0, 3, 4, 24, 1, 1000))
	x = made(t, l)
	for i, want := range []int{102, 1003, 2, 1002} {
		if got := told(costs(t, x, i), lan); got != (spf.Cost{Prefix: lan, From: api.Intra, Metric: want}) {
			t.Error(i, got)
		}
	}
}

// P18.1: a border tells into the area 0 its own areas' costs alone, into others also what it hears there; the least of several areas.
func TestBorders(t *testing.T) {
	// b has the lan in the areas 1 and 2, at unlike costs; a hears it in the area 0, c in the area 1, d in 3.
	a := router("a", 1, on("zero", 0, 0, 1, 24, 0, 1))
	b := router("b", 2, on("zero", 0, 0, 2, 24, 0, 1), on("one", 0, 1, 2, 24, 1, 1), on("three", 0, 3, 2, 24, 3, 1), silent(on("lan1", 1, 0, 1, 24, 1, 50)), silent(on("lan2", 1, 0, 2, 24, 2, 40)))
	c := router("c", 3, on("one", 0, 1, 3, 24, 1, 1))
	d := router("d", 4, on("three", 0, 3, 4, 24, 3, 1))
	x := made(t, []api.Device{a, b, c, d})
	lan := ten(1, 0, 0, 24)
	for i, want := range []spf.Cost{{Prefix: lan, From: api.Inter, Metric: 41}, {Prefix: lan, From: api.Intra, Metric: 40}, {Prefix: lan, From: api.Intra, Metric: 51}, {Prefix: lan, From: api.Inter, Metric: 41}} {
		if got := told(costs(t, x, i), lan); got != want {
			t.Error(i, got)
		}
	}
	// What b has in the area 0 it tells into the others.
	if got := told(costs(t, x, 3), ten(0, 0, 0, 24)); got != (spf.Cost{Prefix: ten(0, 0, 0, 24), From: api.Inter, Metric: 2}) {
		t.Error(got)
	}
	// A subnet costs its owner the least there is: here by the other side of the link.
	y := made(t, []api.Device{
		router("a", 1, on("e0", 0, 0, 1, 24, 0, 9), on("e1", 0, 1, 1, 24, 0, 2)),
		router("b", 2, on("e0", 0, 0, 2, 24, 0, 3), on("e1", 0, 1, 2, 24, 0, 9)),
	})
	if got := costs(t, y, 0); !slices.Equal(got, []spf.Cost{{Prefix: ten(0, 0, 0, 24), From: api.Intra, Metric: 5}, {Prefix: ten(0, 1, 0, 24), From: api.Intra, Metric: 2}}) {
		t.Error(got)
	}
}

// P18.1: what is in no area, what is Passive, what is in other VRFs, and instances of one device.
func TestLinked(t *testing.T) {
	lan := ten(1, 0, 0, 24)
	for what, k := range map[string]struct {
		b    api.Iface
		want int
	}{
		"both":         {on("e0", 0, 0, 2, 24, 0, 1), 7},
		"passive":      {silent(on("e0", 0, 0, 2, 24, 0, 1)), 0},
		"no area":      {on("e0", 0, 0, 2, 24, -1, 1), 0},
		"another area": {on("e0", 0, 0, 2, 24, 1, 1), 0},
		"another":      {on("e0", 0, 0, 2, 25, 0, 1), 0},
		"one address":  {on("e0", 0, 0, 2, 32, 0, 1), 0},
		"VRF without":  {inVRF("red", on("e0", 0, 0, 2, 24, 0, 1)), 0},
		"VRF with":     {inVRF("blue", on("e0", 0, 0, 2, 24, 0, 1)), 9},
	} {
		b := router("b", 2, k.b, silent(on("lan", 1, 0, 1, 24, 0, 2)), inVRF("blue", silent(on("lan2", 1, 0, 2, 24, 0, 4))))
		b.VRFs = []string{"red", "blue"}
		b.OSPF = append(b.OSPF, api.OSPF{VRF: "blue", ID: 3})
		x := made(t, []api.Device{router("a", 1, on("e0", 0, 0, 1, 24, 0, 5)), b})
		want := spf.Cost{}
		if k.want > 0 {
			want = spf.Cost{Prefix: lan, From: api.Intra, Metric: k.want}
		}
		if got := told(costs(t, x, 0), lan); got != want {
			t.Error(what, got)
		}
	}
	// Two VRFs of one device are not linked with one another, but both with a third one.
	a := router("a", 1, on("e0", 0, 0, 1, 24, 0, 5), inVRF("red", on("e1", 0, 0, 2, 24, 0, 6)))
	a.VRFs = []string{"red"}
	a.OSPF = append(a.OSPF, api.OSPF{VRF: "red", ID: 2})
	x := made(t, []api.Device{a})
	if got := way(t, x, 0, 1); got != (spf.Cost{}) {
		t.Error(got)
	}
	x = made(t, []api.Device{a, router("b", 3, on("e0", 0, 0, 3, 24, 0, 7))})
	for i, want := range [][]int{{0, 12, 5}, {13, 0, 6}, {7, 7, 0}} {
		for k, metric := range want {
			if got := way(t, x, i, k); got != (spf.Cost{From: api.Intra, Metric: metric}) {
				t.Error(i, k, got)
			}
		}
	}
}

// P18.1: of several instances of one device on a link none hears another, however much less it costs these to be somewhere.
func TestOneDevice(t *testing.T) {
	vrfs := []string{"", "blue", "green", "red"}
	for _, costs := range [][]int{{5, 3, 100, 100}, {3, 5, 100, 100}, {100, 5, 3, 100}, {100, 100, 5, 3}, {5, 100, 100, 3}, {7, 5, 3, 100}, {100, 7, 5, 3}, {3, 5, 7, 100}} {
		// All of a are linked with b by the first subnet, and each with c by one of its own.
		a, c := router("a", 1), router("c", 9)
		a.OSPF, a.VRFs = nil, vrfs[1:]
		for i, vrf := range vrfs {
			a.OSPF = append(a.OSPF, api.OSPF{VRF: vrf, ID: api.Addr(i + 1)})
			a.Ifaces = append(a.Ifaces, inVRF(vrf, on("e"+vrf, 0, 0, i+1, 24, 0, 1)), inVRF(vrf, on("f"+vrf, 0, i+1, 1, 24, 0, costs[i])))
			c.Ifaces = append(c.Ifaces, on("e"+vrf, 0, i+1, 2, 24, 0, 1))
		}
		x := made(t, []api.Device{a, router("b", 8, on("e0", 0, 0, 9, 24, 0, 10)), c})
		for i, cost := range costs {
			if got, want := way(t, x, i, 5), min(cost, 1+10+slices.Min(costs)); got != (spf.Cost{From: api.Intra, Metric: want}) {
				t.Error(costs, i, got, want)
			}
		}
	}
}

// P18.1: the way to itself is there just if there is an area.
func TestItself(t *testing.T) {
	x := made(t, []api.Device{router("a", 1, on("e0", 0, 0, 1, 32, 4, 5)), router("b", 2, on("e0", 0, 0, 2, 24, -1, 5)), router("c", 3)})
	for i := range 3 {
		for k := range 3 {
			c, e := spf.Way(x, i, k)
			want := api.ErrNone
			if i == 0 && k == 0 {
				want = api.OK
			}
			if e != want || e == api.OK && c != (spf.Cost{From: api.Intra}) || e != api.OK && c != (spf.Cost{}) {
				t.Error(i, k, c, e)
			}
		}
	}
	if got := costs(t, x, 0); !slices.Equal(got, []spf.Cost{{Prefix: ten(0, 0, 1, 32), From: api.Intra, Metric: 5}}) {
		t.Error(got)
	}
	if len(costs(t, x, 1))+len(costs(t, x, 2)) > 0 {
		t.Error(costs(t, x, 1), costs(t, x, 2))
	}
}
