package spf

import (
	"slices"

	"waymark/api"
	"waymark/model"
	"waymark/topo"
)

// net is what OSPF is of a snapshot.
type net struct {
	devices   []api.Device
	instances []Instance
	spots     []spot
	of        [][]int       // the spots of each instance, by rising areas
	borders   [][]int       // of each border
	within    map[int][]int // of each area
	ports     []*port
	wires     map[int][][]*port // of each area
	own       map[want]struct{} // the subnets of the alive interfaces of instances' VRFs
	known     map[int]*ways     // the ways to spots, as far as they were asked for
}

// spot is an instance in one of its areas.
type spot struct {
	instance int
	area     int
	looks    bool // whether the instance looks for Inter there
}

// port is an instance's interface.
type port struct {
	api.Iface
	place    api.Place
	instance int
	spot     int
}

// realm is a device's VRF: it has one OSPF instance at most.
type realm struct {
	device int
	vrf    string
}

// want is a prefix for an instance.
type want struct {
	instance int
	prefix   api.Prefix
}

// newNet is the net of a topo.
func newNet(t *topo.Topo) *net {
	n := &net{devices: t.Devices(), within: map[int][]int{}, wires: map[int][][]*port{}, own: map[want]struct{}{}, known: map[int]*ways{}}
	n.findInstances()
	n.findPorts()
	n.findSpots()
	n.findWires(t)
	return n
}

// findInstances finds the instances, of a device by its VRFs.
func (n *net) findInstances() {
	for d, device := range n.devices {
		for _, vrf := range append([]string{""}, device.VRFs...) {
			at := slices.IndexFunc(device.OSPF, func(o api.OSPF) bool { return o.VRF == vrf })
			if at >= 0 {
				n.instances = append(n.instances, Instance{Device: d, Instance: at, VRF: vrf})
			}
		}
	}
}

// findPorts finds the instances' interfaces, and which subnets their VRFs have.
func (n *net) findPorts() {
	at := map[realm]int{}
	for i, x := range n.instances {
		at[realm{x.Device, x.VRF}] = i
	}
	for _, p := range model.Places(n.devices) {
		x := n.devices[p.Device].Ifaces[p.Iface]
		i, is := at[realm{p.Device, x.VRF}]
		if !is {
			continue
		}
		n.own[want{i, topo.Subnet(x)}] = struct{}{}
		if x.Area >= 0 {
			n.ports = append(n.ports, &port{Iface: x, place: p, instance: i})
		}
	}
}

// findSpots finds the instances' areas.
func (n *net) findSpots() {
	for _, p := range n.ports {
		x := &n.instances[p.instance]
		x.Areas = append(x.Areas, p.Area)
	}
	at := map[[2]int]int{}
	n.of = make([][]int, len(n.instances))
	for i := range n.instances {
		x := &n.instances[i]
		slices.Sort(x.Areas)
		x.Areas = slices.Compact(x.Areas)
		x.Border = len(x.Areas) > 1 && x.Areas[0] == 0
		for _, area := range x.Areas {
			s := len(n.spots)
			at[[2]int{i, area}] = s
			n.of[i] = append(n.of[i], s)
			n.within[area] = append(n.within[area], s)
			n.spots = append(n.spots, spot{i, area, area == 0 || x.Areas[0] != 0})
		}
		if x.Border {
			n.borders = append(n.borders, n.of[i])
		}
	}
	for _, p := range n.ports {
		p.spot = at[[2]int{p.instance, p.Area}]
	}
}

// findWires finds the wires: all interfaces of one subnet in one area that are not Passive, so that each two of unlike devices are linked.
func (n *net) findWires(t *topo.Topo) {
	type name struct {
		area   int
		subnet api.Prefix
	}
	var names []name
	by := map[name][]*port{}
	for _, p := range n.ports {
		if beside, _ := t.Linked(p.place); p.Passive || len(beside) == 0 {
			continue
		}
		k := name{p.Area, topo.Subnet(p.Iface)}
		if len(by[k]) == 0 {
			names = append(names, k)
		}
		by[k] = append(by[k], p)
	}
	for _, k := range names {
		if w := by[k]; slices.ContainsFunc(w, w[0].linked) {
			n.wires[k.area] = append(n.wires[k.area], w)
		}
	}
}

// linked tells of two interfaces of one wire whether they are linked.
func (p *port) linked(q *port) bool { return p.place.Device != q.place.Device }

// has tells whether there is an instance.
func (n *net) has(i int) bool { return i >= 0 && i < len(n.instances) }
