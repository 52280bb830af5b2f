package topo

import "waymark/api"

// instance is a BGP instance, by the places of its device and its own.
type instance struct{ device, at int }

// realm is a device's VRF: it has one BGP instance at most.
type realm struct {
	device int
	vrf    string
}

// call is a neighbour by which an instance means another one: who, and whom.
type call struct {
	pair [2]instance
	peer int
	far  api.Place // the interface that has the neighbour's Addr
}

// heard are the sessions of all instances, in order.
func (t *Topo) heard() []api.Session {
	calls := t.calls()
	by := map[[2]instance][]call{}
	for _, c := range calls {
		by[c.pair] = append(by[c.pair], c)
	}
	var list []api.Session
	for _, c := range calls {
		for _, back := range by[[2]instance{c.pair[1], c.pair[0]}] {
			external := t.bgp(c.pair[0]).AS != t.bgp(c.pair[1]).AS
			if !external || t.linked(c.far, back.far) {
				list = append(list, session(c, back, external))
			}
		}
	}
	return list
}

// session leads to whom calls, from whom calls back.
func session(c, back call, external bool) api.Session {
	to, from := c.pair[0], back.pair[0]
	return api.Session{
		Device: to.device, Instance: to.at, Peer: c.peer,
		FarDevice: from.device, FarInstance: from.at, FarPeer: back.peer,
		External: external,
	}
}

// calls are those of all neighbours that mean another instance, in order of who calls and by what neighbour.
func (t *Topo) calls() []call {
	at := t.instances()
	var list []call
	for d, device := range t.devices {
		for i, b := range device.BGP {
			who := instance{d, i}
			for k, p := range b.Peers {
				far, is := t.owners[p.Addr]
				if !is {
					continue
				}
				whom, is := at[realm{far.Device, t.at(far).VRF}]
				if is && whom != who && t.bgp(whom).AS == p.AS {
					list = append(list, call{[2]instance{who, whom}, k, far})
				}
			}
		}
	}
	return list
}

// instances are the BGP instances by where they are.
func (t *Topo) instances() map[realm]instance {
	at := map[realm]instance{}
	for d, device := range t.devices {
		for i, b := range device.BGP {
			at[realm{d, b.VRF}] = instance{d, i}
		}
	}
	return at
}

// bgp is an instance as its device has it.
func (t *Topo) bgp(x instance) api.BGP { return t.devices[x.device].BGP[x.at] }
