package model_test

import (
	"fmt"
	"math"
	"math/rand"
	"slices"
	"testing"

	"waymark/api"
	"waymark/model"
)

// small is a device with an interface of this address, and instances of these IDs.
func small(name string, a api.Addr, ospf, bgp api.Addr) api.Device {
	d := api.Device{Name: name, Kind: api.Flat, Ifaces: []api.Iface{{Name: "e0", Addr: a, Bits: 24, Area: -1, Cost: 1}}}
	if ospf != 0 {
		d.OSPF = []api.OSPF{{ID: ospf}}
	}
	if bgp != 0 {
		d.BGP = []api.BGP{{AS: 1, ID: bgp}}
	}
	return d
}

// stands looks what Snapshot answers: the places in the list of the devices that it tells, by rising names; or where it refuses.
func stands(t *testing.T, l []api.Device, at int, e api.Errno, places ...int) {
	t.Helper()
	got, i, g := model.Snapshot(l)
	if i != at || g != e || len(got) != len(places) {
		t.Fatalf("%d devices, %d %v, not %d devices, %d %v", len(got), i, g, len(places), at, e)
	}
	for i, k := range places {
		if !alike(got[i], model.Form(l[k])) {
			t.Errorf("%d is not the form of %d: %+v", i, k, got[i])
		}
	}
	if e != api.OK {
		return
	}
	// P12.4: what it tells is a snapshot.
	again, i, g := model.Snapshot(got)
	if i != 0 || g != api.OK || !alike(again, got) {
		t.Error("again:", i, g)
	}
}

// P12.2: the chapter's examples, and forms by rising names.
func TestSnapshotKnown(t *testing.T) {
	a, b := small("a", 1, 1, 1), small("b", 2, 2, 2)
	stands(t, []api.Device{b, a}, 0, api.OK, 1, 0)
	stands(t, []api.Device{a, b}, 0, api.OK, 0, 1)
	stands(t, []api.Device{a, a}, 1, api.ErrModel)
	stands(t, nil, 0, api.OK)
	stands(t, []api.Device{}, 0, api.OK)
	stands(t, []api.Device{device()}, 0, api.OK, 0)
	stands(t, []api.Device{small("b", 1, 0, 0), small("B", 2, 0, 0), small("a-", 3, 0, 0), small("a", 4, 0, 0), small("aa", 5, 0, 0)}, 0, api.OK, 1, 3, 2, 4, 0)
	twice := []api.Device{small("a", 0x0A000001, 0, 0), small("b", 0x0A000001, 0, 0)}
	stands(t, twice, 1, api.ErrModel)
	twice[1].Ifaces[0].Down = true
	stands(t, twice, 0, api.OK, 0, 1)
	twice[0].Ifaces[0].Down = true
	stands(t, twice, 0, api.OK, 0, 1)
}

// P12.2: as many devices as may be, and more.
func TestSnapshotMost(t *testing.T) {
	l := many(nil, api.MaxDevices+1, func(n int) api.Device {
		return small(fmt.Sprintf("d%02d", n), api.Addr(n+1), api.Addr(n+1), api.Addr(n+1))
	})
	var places []int
	for i := range api.MaxDevices {
		places = append(places, i)
	}
	stands(t, l[:api.MaxDevices], 0, api.OK, places...)
	slices.Reverse(places)
	back := slices.Clone(l[:api.MaxDevices])
	slices.Reverse(back)
	stands(t, back, 0, api.OK, places...)
	stands(t, l, api.MaxDevices, api.ErrModel)
	stands(t, slices.Repeat(l, 3), api.MaxDevices, api.ErrModel)
	// Too many stand ahead of all else.
	l[0].Kind = 3
	stands(t, l, api.MaxDevices, api.ErrModel)
	stands(t, l[:api.MaxDevices], 0, api.ErrModel)
}

// P12.2: the first device that may not be, ahead of any that may not stand beside others.
func TestSnapshotWrong(t *testing.T) {
	a, b, c := small("a", 1, 1, 1), small("b", 2, 2, 2), small("c", 3, 3, 3)
	ref, wrong := small("d", 4, 4, 4), small("e", 5, 5, 5)
	ref.Ifaces[0].VRF = "none"
	wrong.Kind = 0
	stands(t, []api.Device{a, ref, wrong}, 1, api.ErrRef)
	stands(t, []api.Device{a, wrong, ref}, 1, api.ErrModel)
	stands(t, []api.Device{ref, a, b}, 0, api.ErrRef)
	stands(t, []api.Device{a, a, ref}, 2, api.ErrRef)
	stands(t, []api.Device{a, a, b, wrong, ref}, 3, api.ErrModel)
	stands(t, []api.Device{a, a, b, b}, 1, api.ErrModel)
	stands(t, []api.Device{a, b, c, b, a}, 3, api.ErrModel)
	stands(t, []api.Device{c, b, a}, 0, api.OK, 2, 1, 0)
}

// P12.2: what each device alone may have once in all of them.
func TestSnapshotOnce(t *testing.T) {
	base := []api.Device{small("a", 1, 1, 1), small("b", 2, 2, 2), small("c", 3, 3, 3)}
	with := func(at int, change func(d *api.Device)) []api.Device {
		l := copied(base)
		change(&l[at])
		return l
	}
	two := func(x api.Iface) func(d *api.Device) {
		return func(d *api.Device) {
			x.Name, x.Area, x.Cost = "e1", -1, 1
			d.VRFs = []string{"red"}
			d.Ifaces = append(d.Ifaces, x)
		}
	}
	stands(t, with(2, func(d *api.Device) { d.Name = "a" }), 2, api.ErrModel)
	stands(t, with(1, func(d *api.Device) { d.Name = "c" }), 2, api.ErrModel)
	stands(t, with(2, func(d *api.Device) { d.OSPF[0].ID = 1 }), 2, api.ErrModel)
	stands(t, with(1, func(d *api.Device) { d.BGP[0].ID = 1 }), 1, api.ErrModel)
	stands(t, with(2, func(d *api.Device) { d.Ifaces[0].Addr = 2 }), 2, api.ErrModel)
	// With other bits, or in another VRF, it is the same address.
	stands(t, with(2, func(d *api.Device) { d.Ifaces[0].Addr, d.Ifaces[0].Bits = 2, 32 }), 2, api.ErrModel)
	stands(t, with(1, two(api.Iface{Addr: 1, Bits: 8, VRF: "red"})), 1, api.ErrModel)
	stands(t, with(0, two(api.Iface{Addr: 3, Bits: 24})), 2, api.ErrModel)
	// A device may not stand beside itself, either.
	stands(t, with(1, two(api.Iface{Addr: 2, Bits: 24, VRF: "red"})), 1, api.ErrModel)
	stands(t, with(1, two(api.Iface{Addr: 2, Bits: 24, Down: true})), 0, api.OK, 0, 1, 2)
	stands(t, with(1, two(api.Iface{})), 0, api.OK, 0, 1, 2)
	stands(t, with(0, two(api.Iface{VRF: "red"})), 0, api.OK, 0, 1, 2)
	instance := func(ospf, bgp api.Addr) func(d *api.Device) {
		return func(d *api.Device) {
			d.VRFs = []string{"red"}
			d.OSPF = append(d.OSPF, api.OSPF{VRF: "red", ID: ospf})
			d.BGP = append(d.BGP, api.BGP{VRF: "red", AS: 1, ID: bgp})
		}
	}
	stands(t, with(0, instance(1, 9)), 0, api.ErrModel)
	stands(t, with(1, instance(9, 2)), 1, api.ErrModel)
	stands(t, with(0, instance(3, 9)), 2, api.ErrModel)
	stands(t, with(2, instance(9, 1)), 2, api.ErrModel)
	// The IDs of OSPF, of BGP, and addresses are of no matter to one another; the ASes to none.
	stands(t, with(2, instance(8, 9)), 0, api.OK, 0, 1, 2)
	turned := copied(base)
	turned[0].OSPF[0].ID, turned[1].OSPF[0].ID, turned[2].BGP[0].ID = 2, 1, 0x0A000001
	stands(t, turned, 0, api.OK, 0, 1, 2)
	// Two interfaces without an address, or two that are down, have none that counts.
	none := copied(base)
	for i := range none {
		none[i].Ifaces[0].Addr, none[i].Ifaces[0].Bits = 0, 0
	}
	stands(t, none, 0, api.OK, 0, 1, 2)
}

// P12.4: in whatever order devices and their things stand.
func TestSnapshotOrder(t *testing.T) {
	r := rand.New(rand.NewSource(12))
	l := []api.Device{device(), small("r0", 1, 11, 11), small("R2", 2, 12, 12), small("r10", 3, 13, 13)}
	want, _, _ := model.Snapshot(l)
	for range 200 {
		var other []api.Device
		for _, d := range l {
			other = append(other, shuffled(r, d))
		}
		mix(r, other)
		got, at, e := model.Snapshot(other)
		if at != 0 || e != api.OK || !alike(got, want) {
			t.Fatal(at, e, got)
		}
	}
	var names []string
	for _, d := range want {
		names = append(names, d.Name)
	}
	if !slices.Equal(names, []string{"R2", "r0", "r1", "r10"}) {
		t.Error(names)
	}
}

// P12.2: an interface that has an address and is not down.
func TestAlive(t *testing.T) {
	for _, x := range []struct {
		i     api.Iface
		alive bool
	}{
		{api.Iface{}, false},
		{api.Iface{Down: true}, false},
		{api.Iface{Addr: 1, Bits: 24}, true},
		{api.Iface{Addr: 1, Bits: 24, Down: true}, false},
		{api.Iface{Addr: math.MaxUint32, Bits: 32}, true},
		{api.Iface{Addr: 0x0A000000, Bits: 8, Name: "e0", VRF: "red", In: "f", Side: 2, Area: -1, Cost: 1, Passive: true}, true},
		{api.Iface{Name: "e0", VRF: "red", In: "f", Out: "f", Side: 2, Area: 7, Cost: 1, Passive: true}, false},
	} {
		if alive := model.Alive(x.i); alive != x.alive {
			t.Error(x.i, alive)
		}
	}
}

// P12.2: each subnet.
func TestSubnet(t *testing.T) {
	if p, is := model.Subnet(api.Iface{Addr: 0x0A010203, Bits: 24}); p != (api.Prefix{Addr: 0x0A010200, Bits: 24}) || !is {
		t.Error(p, is)
	}
	for _, a := range []api.Addr{1, 0x0A010203, 1 << 31, math.MaxUint32} {
		for bits := range 33 {
			for _, down := range []bool{false, true} {
				size := uint64(1) << (32 - bits)
				want := api.Prefix{Addr: api.Addr(uint64(a) / size * size), Bits: bits}
				if p, is := model.Subnet(api.Iface{Addr: a, Bits: bits, Down: down, Area: -1}); p != want || !is {
					t.Error(a, bits, p, is)
				}
			}
		}
		for _, bits := range []int{-1, 33, 64, math.MinInt, math.MaxInt, 1 << 32, 1<<32 + 8} {
			if p, is := model.Subnet(api.Iface{Addr: a, Bits: bits}); p != (api.Prefix{}) || is {
				t.Error(a, bits, p, is)
			}
		}
	}
	for _, x := range []api.Iface{{}, {Name: "e0", Cost: 1, Area: 4}, {Down: true}, {Bits: -1}, {Bits: 33}} {
		if p, is := model.Subnet(x); p != (api.Prefix{}) || is {
			t.Error(x, p, is)
		}
	}
}

// P12.2: the places of those that are alive, in their order.
func TestPlaces(t *testing.T) {
	d := device()
	l := []api.Device{d, {Name: "b"}, small("a", 1, 0, 0), d}
	want := []api.Place{{Device: 0, Iface: 0}, {Device: 0, Iface: 1}, {Device: 2, Iface: 0}, {Device: 3, Iface: 0}, {Device: 3, Iface: 1}}
	if got := model.Places(l); !slices.Equal(got, want) {
		t.Error(got)
	}
	if got := model.Places(l[1:2]); len(got) != 0 {
		t.Error(got)
	}
	if got := model.Places(nil); len(got) != 0 {
		t.Error(got)
	}
	form, _, _ := model.Snapshot([]api.Device{d, small("a", 1, 9, 9)})
	if got := model.Places(form); !slices.Equal(got, []api.Place{{Device: 0, Iface: 0}, {Device: 1, Iface: 1}, {Device: 1, Iface: 2}}) {
		t.Error(got)
	}
}

// P12.2: an interface by its name, alive or not; the first ones of a name; or none.
func TestFind(t *testing.T) {
	l := []api.Device{{Name: "b"}, device(), {Name: "r1", Ifaces: []api.Iface{{Name: "other"}}}, {Ifaces: []api.Iface{{}, {Name: "e"}}}}
	l[1].Ifaces = append(l[1].Ifaces, api.Iface{Name: "lan"})
	for name, at := range map[string]int{"lan": 0, "e1": 1, "e0": 2, "spare": 3} {
		if p, e := model.Find(l, "r1", name); p != (api.Place{Device: 1, Iface: at}) || e != api.OK {
			t.Error(name, p, e)
		}
	}
	if p, e := model.Find(l, "", ""); p != (api.Place{Device: 3}) || e != api.OK {
		t.Error(p, e)
	}
	if p, e := model.Find(l, "", "e"); p != (api.Place{Device: 3, Iface: 1}) || e != api.OK {
		t.Error(p, e)
	}
	for _, x := range [][2]string{{"r1", "e9"}, {"r1", ""}, {"r1", "E0"}, {"r", "e0"}, {"b", "e0"}, {"", "e0"}, {"r1", "other"}, {"c", "lan"}, {"lan", "r1"}} {
		if p, e := model.Find(l, x[0], x[1]); p != (api.Place{}) || e != api.ErrNone {
			t.Error(x, p, e)
		}
	}
	if p, e := model.Find(nil, "", ""); p != (api.Place{}) || e != api.ErrNone {
		t.Error(p, e)
	}
}
