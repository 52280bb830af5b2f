package topo_test

import (
	"cmp"
	"slices"

	"waymark/api"
	"waymark/model"
)

// plainAlive tells whether an interface is alive.
func plainAlive(x api.Iface) bool { return !x.Down && (x.Addr != 0 || x.Bits != 0) }

// plainSubnet is the first address of an interface's subnet, and its last one.
func plainSubnet(x api.Iface) [2]uint64 {
	size := uint64(1) << (32 - x.Bits)
	first := uint64(x.Addr) / size * size
	return [2]uint64{first, first + size - 1}
}

// plainLinked tells of two interfaces of devices whether they are linked (S1).
func plainLinked(l []api.Device, p, q api.Place) bool {
	x, y := l[p.Device].Ifaces[p.Iface], l[q.Device].Ifaces[q.Iface]
	return plainAlive(x) && plainAlive(y) && p.Device != q.Device && x.Bits <= 31 && plainSubnet(x) == plainSubnet(y)
}

// plainPlaces are all places of devices.
func plainPlaces(l []api.Device) []api.Place {
	var list []api.Place
	for d := range l {
		for i := range l[d].Ifaces {
			list = append(list, api.Place{Device: d, Iface: i})
		}
	}
	return list
}

// plainLinks are all pairs of linked interfaces.
func plainLinks(l []api.Device) [][2]api.Place {
	var list [][2]api.Place
	places := plainPlaces(l)
	for i, p := range places {
		for _, q := range places[i+1:] {
			if plainLinked(l, p, q) {
				list = append(list, [2]api.Place{p, q})
			}
		}
	}
	return list
}

// plainOf is the place of a neighbour's address on an instance's device and VRF, if it is alive there and the neighbour's AS is the instance's.
func plainOf(l []api.Device, p api.Peer, device, at int) (api.Place, bool) {
	b := l[device].BGP[at]
	for i, x := range l[device].Ifaces {
		if plainAlive(x) && x.Addr == p.Addr && x.VRF == b.VRF && p.AS == b.AS {
			return api.Place{Device: device, Iface: i}, true
		}
	}
	return api.Place{}, false
}

// plainSessions are all sessions (S5): each neighbour of each instance beside each of each other one.
func plainSessions(l []api.Device) []api.Session {
	type neighbour struct{ device, at, peer int }
	var all []neighbour
	for d := range l {
		for i, b := range l[d].BGP {
			for k := range b.Peers {
				all = append(all, neighbour{d, i, k})
			}
		}
	}
	var list []api.Session
	for _, c := range all {
		for _, b := range all {
			if c.device == b.device && c.at == b.at {
				continue
			}
			to, from := l[c.device].BGP[c.at], l[b.device].BGP[b.at]
			p, is := plainOf(l, to.Peers[c.peer], b.device, b.at)
			q, also := plainOf(l, from.Peers[b.peer], c.device, c.at)
			if is && also && (to.AS == from.AS || plainLinked(l, p, q)) {
				list = append(list, api.Session{Device: c.device, Instance: c.at, Peer: c.peer, FarDevice: b.device, FarInstance: b.at, FarPeer: b.peer, External: to.AS != from.AS})
			}
		}
	}
	return list
}

// six are a session's numbers.
func six(s api.Session) []int {
	return []int{s.Device, s.Instance, s.Peer, s.FarDevice, s.FarInstance, s.FarPeer}
}

func cmpPlaces(p, q api.Place) int {
	return cmp.Or(cmp.Compare(p.Device, q.Device), cmp.Compare(p.Iface, q.Iface))
}

// alike tells whether two lists of devices are the same, each in its form.
func alike(a, b []api.Device) bool {
	return slices.EqualFunc(a, b, model.Same)
}
