package topo_test

import (
	"math/rand"
	"slices"
	"testing"

	"waymark/api"
	"waymark/probe"
	"waymark/topo"
)

// P17.5: each session has one that leads back, by the same two neighbours; P17.3: all in order, each once.
func TestBack(t *testing.T) {
	r := rand.New(rand.NewSource(175))
	for range 400 {
		l := made(t, probe.Network(r.Intn, 2+r.Intn(5))).Sessions()
		all := map[api.Session]bool{}
		for i, s := range l {
			all[s] = true
			if i > 0 && slices.Compare(six(l[i-1]), six(s)) >= 0 {
				t.Error(l[i-1], s)
			}
		}
		for _, s := range l {
			if !all[api.Session{Device: s.FarDevice, Instance: s.FarInstance, Peer: s.FarPeer, FarDevice: s.Device, FarInstance: s.Instance, FarPeer: s.Peer, External: s.External}] {
				t.Error("none back:", s)
			}
		}
	}
}

// two are devices a and b, linked by two subnets, and neighbours in the second one.
func two(as, other uint32) []api.Device {
	a := speaks(with("a", at("e0", 0, 1, 24), at("e1", 1, 1, 24)), as, api.Peer{Addr: 0x0A000102, AS: other})
	b := speaks(with("b", at("e0", 0, 2, 24), at("e1", 1, 2, 24)), other, api.Peer{Addr: 0x0A000101, AS: as})
	a.BGP[0].ID, b.BGP[0].ID = 1, 2
	return []api.Device{a, b}
}

// there looks how many sessions there are.
func there(t *testing.T, what string, l []api.Device, want ...api.Session) {
	t.Helper()
	if got := made(t, l).Sessions(); !slices.Equal(got, want) {
		t.Error(what, got)
	}
}

// P17.3: what parts those that hear one another from those that do not.
func TestSessionEdges(t *testing.T) {
	far := func(external bool) []api.Session {
		return []api.Session{{FarDevice: 1, External: external}, {Device: 1, External: external}}
	}
	there(t, "inside", two(1, 1), far(false)...)
	there(t, "outside", two(1, 2), far(true)...)
	for what, change := range map[string]func(l []api.Device){
		"one side alone":        func(l []api.Device) { l[1].BGP[0].Peers = nil },
		"the other alone":       func(l []api.Device) { l[0].BGP[0].Peers = nil },
		"another AS":            func(l []api.Device) { l[0].BGP[0].Peers[0].AS = 9 },
		"another AS, back":      func(l []api.Device) { l[1].BGP[0].Peers[0].AS = 9 },
		"an address of nobody":  func(l []api.Device) { l[0].BGP[0].Peers[0].Addr = 0x0A000103 },
		"one of its own":        func(l []api.Device) { l[0].BGP[0].Peers[0].Addr = 0x0A000101 },
		"down":                  func(l []api.Device) { l[1].Ifaces[1].Down = true },
		"no instance":           func(l []api.Device) { l[1].BGP = nil },
		"in another VRF":        func(l []api.Device) { l[1].VRFs, l[1].Ifaces[1].VRF = []string{"red"}, "red" },
		"an instance elsewhere": func(l []api.Device) { l[1].VRFs, l[1].BGP[0].VRF = []string{"red"}, "red" },
	} {
		for _, as := range []uint32{1, 2} {
			l := two(1, as)
			change(l)
			there(t, what, l)
		}
	}
	// Both in another VRF, and the interface there too.
	l := two(1, 2)
	l[1].VRFs, l[1].Ifaces[1].VRF, l[1].BGP[0].VRF = []string{"red"}, "red", "red"
	there(t, "red", l, far(true)...)
	// By interfaces that are not linked: inside alone.
	for _, as := range []uint32{1, 2} {
		l := two(1, as)
		l[0].BGP[0].Peers[0].Addr = 0x0A000002
		if as == 1 {
			there(t, "not linked", l, far(false)...)
		} else {
			there(t, "not linked", l)
		}
		l[1].BGP[0].Peers[0].Addr = 0x0A000001
		there(t, "linked by the other", l, far(as == 2)...)
		for i := range l {
			l[i].Ifaces[0].Bits = 32
		}
		if as == 1 {
			there(t, "by single addresses", l, far(false)...)
		} else {
			there(t, "by single addresses", l)
		}
	}
}

// P17.3: one for each two neighbours that fit, in order.
func TestSessionMany(t *testing.T) {
	l := two(1, 1)
	l[0].BGP[0].Peers = []api.Peer{{Addr: 0x0A000102, AS: 1}, {Addr: 0x0A000002, AS: 2}, {Addr: 9, AS: 1}}
	l[1].BGP[0].Peers = []api.Peer{{Addr: 0x0A000101, AS: 1}, {Addr: 0x0A000001, AS: 1}}
	there(t, "one and two", l,
		api.Session{FarDevice: 1}, api.Session{FarDevice: 1, FarPeer: 1},
		api.Session{Device: 1}, api.Session{Device: 1, Peer: 1})
	l[0].BGP[0].Peers[1].AS = 1
	want := []api.Session{
		{FarDevice: 1}, {FarDevice: 1, FarPeer: 1}, {Peer: 1, FarDevice: 1}, {Peer: 1, FarDevice: 1, FarPeer: 1},
		{Device: 1}, {Device: 1, FarPeer: 1}, {Device: 1, Peer: 1}, {Device: 1, Peer: 1, FarPeer: 1},
	}
	there(t, "two and two", l, want...)
	// Outside each goes with the one that is linked.
	for i := range l[0].BGP[0].Peers {
		l[0].BGP[0].Peers[i].AS = 2
	}
	l[1].BGP[0].AS = 2
	there(t, "outside", l,
		api.Session{FarDevice: 1, External: true}, api.Session{Peer: 1, FarDevice: 1, FarPeer: 1, External: true},
		api.Session{Device: 1, External: true}, api.Session{Device: 1, Peer: 1, FarPeer: 1, External: true})
}

// P17.3: two instances of one device are others, but nobody is linked within a device.
func TestSessionWithin(t *testing.T) {
	d := with("a", at("e0", 0, 1, 24), at("e1", 0, 2, 24))
	d.VRFs, d.Ifaces[1].VRF = []string{"red"}, "red"
	d.BGP = []api.BGP{
		{AS: 1, ID: 1, Peers: []api.Peer{{Addr: 0x0A000001, AS: 1}, {Addr: 0x0A000002, AS: 1}}},
		{VRF: "red", AS: 1, ID: 2, Peers: []api.Peer{{Addr: 0x0A000001, AS: 1}}},
	}
	there(t, "within", []api.Device{d}, api.Session{Peer: 1, FarInstance: 1}, api.Session{Instance: 1, FarPeer: 1})
	d.BGP[1].AS, d.BGP[0].Peers[1].AS = 2, 2
	there(t, "outside, within", []api.Device{d})
}

// R2, R3: what was handed in is not kept, what is handed out is the caller's.
func TestMemory(t *testing.T) {
	r := rand.New(rand.NewSource(173))
	for range 50 {
		l := probe.Network(r.Intn, 3)
		x, y := made(t, l), made(t, l)
		for i := range l {
			for k := range l[i].Ifaces {
				l[i].Ifaces[k] = api.Iface{}
			}
			for k := range l[i].BGP {
				clear(l[i].BGP[k].Peers)
			}
			l[i].VRFs = append(l[i].VRFs, "x")
		}
		spoil(x)
		agree(t, x, y.Devices())
		if !alike(x.Devices(), y.Devices()) || len(x.Sessions()) != len(y.Sessions()) {
			t.Fatal("changed")
		}
	}
}

// spoil writes over all that a topo hands out, and over the room behind it.
func spoil(x *topo.Topo) {
	for _, p := range plainPlaces(x.Devices()) {
		l, _ := x.Linked(p)
		clear(l[:cap(l)])
	}
	links, sessions, devices := x.Links(), x.Sessions(), x.Devices()
	clear(links[:cap(links)])
	clear(sessions[:cap(sessions)])
	for _, d := range devices {
		clear(d.Ifaces[:cap(d.Ifaces)])
		clear(d.VRFs[:cap(d.VRFs)])
		for _, b := range d.BGP {
			clear(b.Peers[:cap(b.Peers)])
		}
		clear(d.BGP[:cap(d.BGP)])
		clear(d.OSPF[:cap(d.OSPF)])
	}
	clear(devices[:cap(devices)])
}

// R2: many ask one topo at one time.
func TestAtOneTime(t *testing.T) {
	r := rand.New(rand.NewSource(17))
	x := made(t, probe.Network(r.Intn, 5))
	want := x.Links()
	done := make(chan int)
	for range 8 {
		go func() {
			for range 50 {
				spoil(x)
				if got := x.Links(); !slices.Equal(got, want) {
					t.Error(got)
				}
			}
			done <- 1
		}()
	}
	for range 8 {
		<-done
	}
}

// R1: the greatest snapshot: all devices, all interfaces of one subnet, as many neighbours as may be.
func TestMost(t *testing.T) {
	var l []api.Device
	for d := range api.MaxDevices {
		device := with(string(rune('a'+d%26)) + string(rune('a'+d/26)))
		for i := range api.MaxIfaces {
			device.Ifaces = append(device.Ifaces, at("e"+string(rune('a'+i%26))+string(rune('a'+i/26)), d, i, 8))
		}
		var peers []api.Peer
		for k := range api.MaxRules {
			far := (d + []int{1, 2, 30, 31}[k/api.MaxIfaces]) % api.MaxDevices
			peers = append(peers, api.Peer{Addr: api.Addr(0x0A000000 + far*256 + k%api.MaxIfaces), AS: 1})
		}
		device.BGP = []api.BGP{{AS: 1, ID: api.Addr(d + 1), Peers: peers}}
		l = append(l, device)
	}
	x := made(t, l)
	pairs := api.MaxDevices * (api.MaxDevices - 1) / 2 * api.MaxIfaces * api.MaxIfaces
	if got := len(x.Links()); got != pairs {
		t.Error(got, pairs)
	}
	// Each of four neighbours' interfaces with each of one's own.
	if got := len(x.Sessions()); got != api.MaxDevices*api.MaxRules*api.MaxIfaces {
		t.Error(got)
	}
}
