package spf_test

import (
	"math/rand"
	"slices"
	"strconv"
	"testing"

	"waymark/api"
	"waymark/model"
	"waymark/topo"
)

// made is the topo of devices.
func made(t *testing.T, l []api.Device) *topo.Topo {
	t.Helper()
	x, e := topo.New(l)
	if e != api.OK {
		_, at, _ := model.Snapshot(l)
		what, _ := model.Check(l[min(at, len(l)-1)])
		t.Fatal(e, at, what)
	}
	return x
}

// drawn draws devices whose instances stand in few areas, on subnets of one, two and more, some of which are there in several areas.
func drawn(r *rand.Rand, count int) []api.Device {
	areas := []int{0, 0, 1, 1, 2, 7}[:1+r.Intn(6)]
	list := make([]api.Device, count)
	id := api.Addr(1)
	for d := range list {
		list[d] = api.Device{Name: "r" + strconv.Itoa((d*7+5)%32), Kind: uint8(1 + r.Intn(2))}
		if r.Intn(3) == 0 {
			list[d].VRFs = []string{"red", "blue"}[:1+r.Intn(2)]
		}
		vrfs := append([]string{""}, list[d].VRFs...)
		r.Shuffle(len(vrfs), func(i, k int) { vrfs[i], vrfs[k] = vrfs[k], vrfs[i] })
		for _, vrf := range vrfs {
			if r.Intn(12) > 0 {
				list[d].OSPF = append(list[d].OSPF, api.OSPF{VRF: vrf, ID: id})
				id++
			}
		}
	}
	for k := range count + r.Intn(2*count) {
		drawnSubnet(r, list, k, areas)
	}
	return list
}

// drawnSubnet gives some devices interfaces of one subnet, mostly in one area.
func drawnSubnet(r *rand.Rand, list []api.Device, k int, areas []int) {
	area := areas[r.Intn(len(areas))]
	members := []int{1, 2, 2, 2, 2, 2, 3, 4, 7}[r.Intn(9)]
	bits := []int{24, 24, 28, 29}[r.Intn(4)]
	if members == 1 {
		bits = []int{24, 31, 32}[r.Intn(3)]
	}
	passive := r.Intn(6) == 0
	for n := range members {
		d := &list[r.Intn(len(list))]
		x := api.Iface{Name: "e" + strconv.Itoa(len(d.Ifaces)*5%64), Addr: api.Addr(0x0A000000 + k*256 + n + 1), Bits: bits, Area: area, Cost: 1 + r.Intn(4), Passive: passive, Down: r.Intn(30) == 0}
		if r.Intn(9) == 0 {
			x.Area = areas[r.Intn(len(areas))]
		}
		if r.Intn(20) == 0 {
			x.Area = -1
		}
		if r.Intn(12) == 0 {
			x.Passive = !passive
		}
		if len(d.VRFs) > 0 && r.Intn(3) == 0 {
			x.VRF = d.VRFs[r.Intn(len(d.VRFs))]
		}
		d.Ifaces = append(d.Ifaces, x)
	}
}

// drawnTaken draws what instances take over: few prefixes, among them subnets, of few metrics and tags.
func drawnTaken(r *rand.Rand, p *plain) []api.Taken {
	if len(p.all) == 0 {
		return nil
	}
	prefixes := append(p.subnets(), api.Prefix{}, api.Prefix{Addr: 0x09000000, Bits: 8}, api.Prefix{Addr: 0x0A000000, Bits: 8})
	prefixes = prefixes[max(0, len(prefixes)-5):]
	var list []api.Taken
	for range r.Intn(13) {
		x := p.all[r.Intn(len(p.all))]
		list = append(list, api.Taken{Device: x.Device, Instance: x.Instance, Prefix: prefixes[r.Intn(len(prefixes))], Metric: r.Intn(4), Type: uint8(1 + r.Intn(2)), Tag: r.Intn(4)})
	}
	return list
}

// flatten puts all interfaces that have an area into the area 0.
func flatten(l []api.Device) []api.Device {
	for _, d := range l {
		for i := range d.Ifaces {
			d.Ifaces[i].Area = min(d.Ifaces[i].Area, 0)
		}
	}
	return l
}

// copied are the same devices, in lists of their own.
func copied(l []api.Device) []api.Device {
	l = slices.Clone(l)
	for i := range l {
		l[i] = model.Twin(l[i])
	}
	return l
}
