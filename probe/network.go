package probe

import (
	"strconv"

	"waymark/api"
)

// Network makes so many devices that may stand beside one another, of interfaces in few subnets, of instances that mostly know one another: all by what pick answers, which is asked for numbers below one of 1 or more.
func Network(pick func(int) int, count int) []api.Device {
	used := map[api.Addr]int{}
	list := make([]api.Device, count)
	for i := range list {
		list[i] = networkDevice(pick, i, used)
	}
	for i := range list {
		for k := range list[i].BGP {
			list[i].BGP[k].Peers = networkPeers(pick, list, i)
		}
	}
	return list
}

// networkDevice is a device without BGP neighbours, of addresses that are not used yet.
func networkDevice(pick func(int) int, number int, used map[api.Addr]int) api.Device {
	d := api.Device{Name: "r" + strconv.Itoa((number*7+3)%32), Kind: uint8(1 + pick(2))}
	vrfs := []string{""}
	for _, vrf := range []string{"red", "blue"}[:pick(3)] {
		d.VRFs = append(d.VRFs, vrf)
		vrfs = append(vrfs, vrf)
	}
	for k := range 1 + pick(5) {
		x := api.Iface{Name: "e" + strconv.Itoa((k*5+2)%8), VRF: vrfs[pick(1+pick(len(vrfs)))], Area: -1, Cost: 1 + pick(4), Down: pick(8) == 0, Passive: pick(8) == 0}
		x.Area += pick(4)
		networkAddress(pick, &x, used)
		d.Ifaces = append(d.Ifaces, x)
	}
	for k, vrf := range vrfs {
		if pick(4) > 0 {
			d.OSPF = append(d.OSPF, api.OSPF{VRF: vrf, ID: api.Addr(1 + number*4 + k)})
		}
		if pick(4) > 0 {
			d.BGP = append(d.BGP, api.BGP{VRF: vrf, AS: uint32(1 + pick(3)), ID: api.Addr(1 + number*4 + k)})
		}
	}
	return d
}

// networkAddress gives an interface an address, or none; one that is down may have one that is used.
func networkAddress(pick func(int) int, x *api.Iface, used map[api.Addr]int) {
	if pick(10) == 0 {
		return
	}
	a := api.Addr(0x0A000000 + pick(3)*256 + pick(12))
	for used[a] > 0 && !x.Down {
		a++
	}
	x.Addr, x.Bits = a, []int{24, 24, 24, 24, 29, 30, 31, 32}[pick(8)]
	if !x.Down {
		used[a] = 1
	}
}

// networkPeers are neighbours of a device's instance: mostly the addresses of others, of the AS that one of these has.
func networkPeers(pick func(int) int, list []api.Device, here int) []api.Peer {
	var peers []api.Peer
	used := map[api.Addr]int{0: 1}
	for i, d := range list {
		for _, x := range d.Ifaces {
			if used[x.Addr] > 0 || pick(4) == 0 || i == here && pick(4) > 0 {
				continue
			}
			used[x.Addr] = 1
			p := api.Peer{Addr: x.Addr, AS: uint32(1 + pick(3)), Client: pick(4) == 0, Self: pick(4) == 0}
			for _, b := range d.BGP {
				if b.VRF == x.VRF && pick(8) > 0 {
					p.AS = b.AS
				}
			}
			peers = append(peers, p)
		}
	}
	return peers
}
