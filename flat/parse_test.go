package flat_test

import (
	"strconv"
	"strings"
	"testing"

	"waymark/api"
	"waymark/flat"
	"waymark/probe"
)

// named is a device of lines with nothing but a name.
func named(change func(d *api.Device)) api.Device {
	d := api.Device{Name: "a", Kind: api.Flat}
	change(&d)
	return d
}

func withIface(change func(i *api.Iface)) api.Device {
	i := api.Iface{Name: "e0", Area: -1, Cost: 10}
	change(&i)
	return named(func(d *api.Device) { d.Ifaces = []api.Iface{i} })
}

func withClause(change func(c *api.Clause)) api.Device {
	c := api.Clause{Seq: 10, Action: api.Permit, Tag: -1, Metric: -1, Through: -1, SetMetric: -1, SetPref: -1, SetTag: -1}
	change(&c)
	return named(func(d *api.Device) { d.Policies = []api.Policy{{Name: "p", Clauses: []api.Clause{c}}} })
}

func withRule(r api.Rule) api.Device {
	return named(func(d *api.Device) { d.Filters = []api.Filter{{Name: "f", Rules: []api.Rule{r}}} })
}

func withStatic(s api.Static) api.Device {
	return named(func(d *api.Device) { d.Statics = []api.Static{s} })
}

func withEntry(permit bool, bits, ge, le int) api.Device {
	e := api.Entry{Permit: permit, Prefix: api.Prefix{Addr: 0x0A000000, Bits: bits}, Ge: ge, Le: le}
	return named(func(d *api.Device) { d.Prefixes = []api.PrefixList{{Name: "l", Entries: []api.Entry{e}}} })
}

func withOSPF(o api.OSPF) api.Device {
	return named(func(d *api.Device) { d.OSPF = []api.OSPF{o} })
}

func withBGP(b api.BGP) api.Device {
	return named(func(d *api.Device) { d.BGP = []api.BGP{b} })
}

// checkSays looks whether texts behind a hostname are read as these devices.
func checkSays(t *testing.T, known []says) {
	t.Helper()
	for _, k := range known {
		for _, s := range []string{"hostname a\n" + k.text, k.text + "\nhostname a\n"} {
			if d, pos, e := flat.Parse(s); e != api.OK || pos != (api.Pos{}) || !alike(d, k.d) {
				t.Errorf("Parse(%q):\n%+v %v %v, not\n%+v", s, d, pos, e, k.d)
			}
		}
	}
}

type says struct {
	text string
	d    api.Device
}

const top = 1 << 24

// P13.1: each statement, with and without what may be left out, at the ends of its numbers.
func TestStatements(t *testing.T) {
	ten, all := api.Prefix{Addr: 0x0A000000, Bits: 8}, api.Prefix{}
	checkSays(t, []says{
		{"", named(func(*api.Device) {})},
		{"vrf red\nvrf blue", named(func(d *api.Device) { d.VRFs = []string{"red", "blue"} })},
		{"interface e0", withIface(func(*api.Iface) {})},
		{"ip route 10.0.0.0 255.0.0.0 10.0.0.9", withStatic(api.Static{Prefix: ten, Via: 0x0A000009, Dist: 1})},
		{"ip route vrf red 0.0.0.0 0.0.0.0 discard", withStatic(api.Static{VRF: "red", Prefix: all, Discard: true, Dist: 1})},
		{"ip route 10.0.0.0 255.0.0.0 discard distance 255 tag 16777216", withStatic(api.Static{Prefix: ten, Discard: true, Dist: 255, Tag: top})},
		{"ip route 10.0.0.0 255.0.0.0 255.255.255.255 tag 0", withStatic(api.Static{Prefix: ten, Via: 0xFFFFFFFF, Dist: 1})},
		{"ip route vrf tag 1.2.3.4 255.255.255.255 0.0.0.1 distance 1", withStatic(api.Static{VRF: "tag", Prefix: api.Prefix{Addr: 0x01020304, Bits: 32}, Via: 1, Dist: 1})},
		{"ip prefix-list l permit 10.0.0.0/8", withEntry(true, 8, 8, 8)},
		{"ip prefix-list l deny 10.0.0.0/8 ge 8", withEntry(false, 8, 8, 32)},
		{"ip prefix-list l deny 10.0.0.0/8 ge 32", withEntry(false, 8, 32, 32)},
		{"ip prefix-list l deny 10.0.0.0/8 le 8", withEntry(false, 8, 8, 8)},
		{"ip prefix-list l deny 10.0.0.0/8 le 32", withEntry(false, 8, 8, 32)},
		{"ip prefix-list l permit 10.0.0.0/8 ge 16 le 16", withEntry(true, 8, 16, 16)},
		{"ip prefix-list l permit 10.0.0.0/8 ge 16 le 24", withEntry(true, 8, 16, 24)},
		{"ip prefix-list l permit 10.0.0.0/32 ge 32 le 32", withEntry(true, 32, 32, 32)},
		{"ip community-list l permit 1:2 0:0 1:2\nip community-list l deny 65535:65535", named(func(d *api.Device) {
			d.Communities = []api.CommunityList{{Name: "l", Members: []api.Member{{Permit: true, All: []uint32{65538, 0, 65538}}, {All: []uint32{0xFFFFFFFF}}}}}
		})},
		{"ip nat source filter f to 1.2.3.4\nip nat destination filter f to 0.0.0.0", named(func(d *api.Device) {
			d.Rewrites = []api.Rewrite{{Filter: "f", To: 0x01020304}, {Dest: true, Filter: "f"}}
		})},
		{"router ospf\nrouter ospf vrf red", named(func(d *api.Device) { d.OSPF = []api.OSPF{{}, {VRF: "red"}} })},
		{"router bgp 4294967295\nrouter bgp 1 vrf red", named(func(d *api.Device) { d.BGP = []api.BGP{{AS: 0xFFFFFFFF}, {AS: 1, VRF: "red"}} })},
	})
}

// P13.1: what an interface's block says.
func TestInterface(t *testing.T) {
	known := map[string]func(i *api.Iface){
		"vrf red":                         func(i *api.Iface) { i.VRF = "red" },
		"address 10.0.0.1 255.255.255.0":  func(i *api.Iface) { i.Addr, i.Bits = 0x0A000001, 24 },
		"address 0.0.0.0 128.0.0.0":       func(i *api.Iface) { i.Bits = 1 },
		"address 1.2.3.4 255.255.255.255": func(i *api.Iface) { i.Addr, i.Bits = 0x01020304, 32 },
		"filter f in":                     func(i *api.Iface) { i.In = "f" },
		"filter in out":                   func(i *api.Iface) { i.Out = "in" },
		"nat inside":                      func(i *api.Iface) { i.Side = api.Inside },
		"nat outside":                     func(i *api.Iface) { i.Side = api.Outside },
		"ospf area 0":                     func(i *api.Iface) { i.Area = 0 },
		"ospf area 16777216":              func(i *api.Iface) { i.Area = top },
		"ospf cost 1":                     func(i *api.Iface) { i.Cost = 1 },
		"ospf cost 65535":                 func(i *api.Iface) { i.Cost = 65535 },
		"ospf passive":                    func(i *api.Iface) { i.Passive = true },
		"shutdown":                        func(i *api.Iface) { i.Down = true },
	}
	for text, change := range known {
		checkSays(t, []says{{"interface e0\n " + text, withIface(change)}})
	}
	checkSays(t, []says{{"interface e0\n shutdown\n ospf passive\n ospf cost 7\n ospf area 3\n nat inside\n filter g out\n filter f in\n address 10.0.0.1 255.0.0.0\n vrf red", withIface(func(i *api.Iface) {
		*i = api.Iface{Name: "e0", VRF: "red", Addr: 0x0A000001, Bits: 8, Down: true, In: "f", Out: "g", Side: api.Inside, Area: 3, Cost: 7, Passive: true}
	})}})
}

// P13.1: what a filter's block says.
func TestRule(t *testing.T) {
	all := api.Span{Hi: 65535}
	any := api.Rule{Permit: true, Proto: -1, SrcPorts: all, DstPorts: all}
	with := func(change func(r *api.Rule)) api.Device {
		r := any
		change(&r)
		return withRule(r)
	}
	known := map[string]func(r *api.Rule){
		"permit any any any":                     func(*api.Rule) {},
		"deny any any any":                       func(r *api.Rule) { r.Permit = false },
		"permit tcp any any":                     func(r *api.Rule) { r.Proto = 6 },
		"permit udp any any":                     func(r *api.Rule) { r.Proto = 17 },
		"permit icmp any any":                    func(r *api.Rule) { r.Proto = 1 },
		"permit 0 any any":                       func(r *api.Rule) { r.Proto = 0 },
		"permit 255 any any":                     func(r *api.Rule) { r.Proto = 255 },
		"permit 1 host 1.2.3.4 any":              func(r *api.Rule) { r.Proto, r.Src = 1, api.Prefix{Addr: 0x01020304, Bits: 32} },
		"permit any any 1.2.3.4 0.0.0.0":         func(r *api.Rule) { r.Dst = api.Prefix{Addr: 0x01020304, Bits: 32} },
		"permit any 0.0.0.0 255.255.255.255 any": func(r *api.Rule) {},
		"permit any 10.0.0.0 0.255.255.255 host 0.0.0.0": func(r *api.Rule) {
			r.Src, r.Dst = api.Prefix{Addr: 0x0A000000, Bits: 8}, api.Prefix{Bits: 32}
		},
		"permit any 128.0.0.0 127.255.255.255 any": func(r *api.Rule) { r.Src = api.Prefix{Addr: 1 << 31, Bits: 1} },
		"permit tcp any eq 0 any":                  func(r *api.Rule) { r.Proto, r.SrcPorts = 6, api.Span{} },
		"permit 6 any any eq 65535":                func(r *api.Rule) { r.Proto, r.DstPorts = 6, api.Span{Lo: 65535, Hi: 65535} },
		"permit 17 any range 0 65535 any range 5 5": func(r *api.Rule) {
			r.Proto, r.DstPorts = 17, api.Span{Lo: 5, Hi: 5}
		},
		"permit udp host 1.2.3.4 range 1 2 5.6.7.0 0.0.0.255 eq 3": func(r *api.Rule) {
			*r = api.Rule{Permit: true, Proto: 17, Src: api.Prefix{Addr: 0x01020304, Bits: 32}, Dst: api.Prefix{Addr: 0x05060700, Bits: 24}, SrcPorts: api.Span{Lo: 1, Hi: 2}, DstPorts: api.Span{Lo: 3, Hi: 3}}
		},
	}
	for text, change := range known {
		checkSays(t, []says{{"ip filter f\n " + text, with(change)}})
	}
	checkSays(t, []says{
		{"ip filter f", named(func(d *api.Device) { d.Filters = []api.Filter{{Name: "f"}} })},
		// The same rule may stand twice.
		{"ip filter f\n permit any any any\n permit any any any\nip filter g\n permit any any any", named(func(d *api.Device) {
			d.Filters = []api.Filter{{Name: "f", Rules: []api.Rule{any, any}}, {Name: "g", Rules: []api.Rule{any}}}
		})},
	})
}

// P13.1: what a route-map's block says.
func TestClause(t *testing.T) {
	known := map[string]func(c *api.Clause){
		"match prefix-list l":       func(c *api.Clause) { c.Prefixes = "l" },
		"match community-list l":    func(c *api.Clause) { c.Communities = "l" },
		"match tag 0":               func(c *api.Clause) { c.Tag = 0 },
		"match tag 16777216":        func(c *api.Clause) { c.Tag = top },
		"match metric 0":            func(c *api.Clause) { c.Metric = 0 },
		"match metric 16777216":     func(c *api.Clause) { c.Metric = top },
		"match as 1":                func(c *api.Clause) { c.Through = 1 },
		"match as 4294967295":       func(c *api.Clause) { c.Through = 1<<32 - 1 },
		"set metric 0":              func(c *api.Clause) { c.SetMetric = 0 },
		"set metric 16777216":       func(c *api.Clause) { c.SetMetric = top },
		"set preference 0":          func(c *api.Clause) { c.SetPref = 0 },
		"set preference 16777216":   func(c *api.Clause) { c.SetPref = top },
		"set tag 0":                 func(c *api.Clause) { c.SetTag = 0 },
		"set tag 16777216":          func(c *api.Clause) { c.SetTag = top },
		"set community 1:2 0:1 1:2": func(c *api.Clause) { c.SetComm = []uint32{65538, 1, 65538} },
		"set community add 0:0":     func(c *api.Clause) { c.SetComm, c.Add = []uint32{0}, true },
		"set prepend 9 1 4294967295 9": func(c *api.Clause) {
			c.Prepend = []uint32{9, 1, 0xFFFFFFFF, 9}
		},
		"set next-hop 0.0.0.1": func(c *api.Clause) { c.SetHop = 1 },
		"continue 11":          func(c *api.Clause) { c.Jump = 11 },
		"continue 65535":       func(c *api.Clause) { c.Jump = 65535 },
	}
	for text, change := range known {
		checkSays(t, []says{{"route-map p permit 10\n " + text, withClause(change)}})
	}
	for action, word := range []string{"deny", "permit", "next"} {
		for _, seq := range []int{1, 65535} {
			checkSays(t, []says{{"route-map p " + word + " " + strconv.Itoa(seq), withClause(func(c *api.Clause) { c.Seq, c.Action = seq, uint8(action) })}})
		}
	}
	checkSays(t, []says{{"route-map p permit 10\n match tag 1\n set tag 2\n match metric 3\n set metric 4", withClause(func(c *api.Clause) {
		c.Tag, c.SetTag, c.Metric, c.SetMetric = 1, 2, 3, 4
	})}})
}

// P13.1: what routers' blocks say.
func TestRouters(t *testing.T) {
	from := func(l ...api.Redist) api.OSPF { return api.OSPF{From: l} }
	peer := func(change func(p *api.Peer)) api.Device {
		p := api.Peer{Addr: 0x0A000002, AS: 2}
		change(&p)
		return withBGP(api.BGP{AS: 1, Peers: []api.Peer{p}})
	}
	checkSays(t, []says{
		{"router ospf\n router-id 1.2.3.4", withOSPF(api.OSPF{ID: 0x01020304})},
		{"router ospf\n router-id 0.0.0.0", withOSPF(api.OSPF{})},
		{"router ospf\n redistribute connected", withOSPF(from(api.Redist{From: api.FromConnected, Metric: -1, Type: 2}))},
		{"router ospf\n redistribute static metric 0 type 1 route-map p", withOSPF(from(api.Redist{From: api.FromStatic, Type: 1, Policy: "p"}))},
		{"router ospf\n redistribute bgp type 2\n redistribute bgp route-map type\n redistribute bgp metric 16777216", withOSPF(from(api.Redist{From: api.FromBGP, Metric: -1, Type: 2}, api.Redist{From: api.FromBGP, Metric: -1, Type: 2, Policy: "type"}, api.Redist{From: api.FromBGP, Metric: top, Type: 2}))},
		{"router bgp 1\n router-id 1.2.3.4\n redistribute ospf\n redistribute ospf", withBGP(api.BGP{AS: 1, ID: 0x01020304, From: []api.Redist{{From: api.FromOSPF, Metric: -1}, {From: api.FromOSPF, Metric: -1}}})},
		{"router bgp 1\n redistribute connected metric 16777216\n redistribute static metric 0 route-map p", withBGP(api.BGP{AS: 1, From: []api.Redist{{From: api.FromConnected, Metric: top}, {From: api.FromStatic, Policy: "p"}}})},
		{"router bgp 1\n network 0.0.0.0 0.0.0.0\n network 10.0.0.0 255.0.0.0", withBGP(api.BGP{AS: 1, Nets: []api.Prefix{{}, {Addr: 0x0A000000, Bits: 8}}})},
		{"router bgp 1\n neighbor 10.0.0.2 as 2", peer(func(*api.Peer) {})},
		{"router bgp 1\n neighbor 10.0.0.2 as 4294967295", peer(func(p *api.Peer) { p.AS = 0xFFFFFFFF })},
		{"router bgp 1\n neighbor 10.0.0.2 as 2\n neighbor 10.0.0.2 route-map out in", peer(func(p *api.Peer) { p.In = "out" })},
		{"router bgp 1\n neighbor 10.0.0.2 as 2\n neighbor 10.0.0.2 route-map in out", peer(func(p *api.Peer) { p.Out = "in" })},
		{"router bgp 1\n neighbor 10.0.0.2 as 2\n neighbor 10.0.0.2 client", peer(func(p *api.Peer) { p.Client = true })},
		{"router bgp 1\n neighbor 10.0.0.2 as 2\n neighbor 10.0.0.2 next-hop-self", peer(func(p *api.Peer) { p.Self = true })},
		{"router bgp 1\n neighbor 9.0.0.2 as 7\n neighbor 0.0.0.0 as 3\n neighbor 9.0.0.2 client\n neighbor 0.0.0.0 next-hop-self\n neighbor 9.0.0.2 route-map p out", withBGP(api.BGP{AS: 1, Peers: []api.Peer{{Addr: 0x09000002, AS: 7, Out: "p", Client: true}, {AS: 3, Self: true}}})},
	})
}

// P13.1: what several lines speak of stands where it is said of first, clauses by rising Seq; the same may stand in blocks unlike one another.
func TestOrder(t *testing.T) {
	d, _, e := flat.Parse(strings.Join([]string{
		"ip prefix-list b permit 10.0.0.0/8",
		"ip community-list d permit 1:1",
		"route-map q next 30", " match tag 3",
		"ip prefix-list a permit 10.0.0.0/8",
		"route-map p deny 5",
		"ip community-list c permit 1:1",
		"ip prefix-list b deny 11.0.0.0/8",
		"route-map q permit 10", " match tag 1", " continue 11",
		"hostname h",
		"route-map q deny 20", " match tag 2", " continue 30",
		"ip community-list d deny 1:2",
		"router bgp 1", " neighbor 1.1.1.1 as 1", " network 10.0.0.0 255.0.0.0", " neighbor 1.1.1.1 client",
		"router bgp 1 vrf red", " neighbor 1.1.1.1 as 1", " network 10.0.0.0 255.0.0.0", " network 10.0.0.0 255.255.0.0", " neighbor 1.1.1.1 client",
		"vrf a", "interface a", " vrf a", "interface b", " vrf a", "ip filter a",
	}, "\n"))
	if e != api.OK || len(d.Prefixes) != 2 || len(d.Communities) != 2 || len(d.Policies) != 2 || len(d.BGP) != 2 {
		t.Fatal(d, e)
	}
	if l := d.Prefixes; l[0].Name != "b" || l[1].Name != "a" || len(l[0].Entries) != 2 || l[0].Entries[0].Prefix.Addr != 0x0A000000 || l[0].Entries[1].Prefix.Addr != 0x0B000000 || len(l[1].Entries) != 1 {
		t.Error(l)
	}
	if l := d.Communities; l[0].Name != "d" || l[1].Name != "c" || len(l[0].Members) != 2 || l[0].Members[0].All[0] != 65537 || l[0].Members[1].All[0] != 65538 {
		t.Error(l)
	}
	if l := d.Policies; l[0].Name != "q" || l[1].Name != "p" || len(l[1].Clauses) != 1 || len(l[0].Clauses) != 3 {
		t.Error(l)
	}
	for i, c := range d.Policies[0].Clauses {
		if c.Seq != 10*(i+1) || c.Tag != i+1 || c.Jump != []int{11, 30, 0}[i] || c.Action != []uint8{api.Permit, api.Deny, api.Next}[i] {
			t.Error(i, c)
		}
	}
	if l := d.BGP; len(l[0].Nets) != 1 || len(l[1].Nets) != 2 || !l[0].Peers[0].Client || !l[1].Peers[0].Client {
		t.Error(l)
	}
}

// P13.1: a policy of many clauses said of in any order.
func TestManyClauses(t *testing.T) {
	s := "hostname a\n"
	for i := range 1000 {
		s += "route-map p permit " + strconv.Itoa((i*377)%1000+1) + "\n match tag " + strconv.Itoa((i*377)%1000) + "\n"
	}
	d, _, e := flat.Parse(s)
	if e != api.OK || len(d.Policies) != 1 || len(d.Policies[0].Clauses) != 1000 {
		t.Fatal(e)
	}
	for i, c := range d.Policies[0].Clauses {
		if c.Seq != i+1 || c.Tag != i {
			t.Fatal(i, c)
		}
	}
}

// P13.1: names are names alone, wherever they stand.
func TestNames(t *testing.T) {
	probe.Texts("a-9Z_", 3, func(s string) {
		for _, line := range []string{"vrf ", "interface ", "ip filter ", "router ospf vrf ", "router bgp 1 vrf "} {
			agree(t, "hostname a\n"+line+s)
		}
	})
	for _, n := range []string{strings.Repeat("n", 32), strings.Repeat("n", 33), "a!", "!a", "a{", "1a", ".a", "/", "a/b.c-d_e"} {
		agree(t, "hostname "+n)
		agree(t, "hostname a\nvrf "+n)
		agree(t, "hostname a\nip nat source filter "+n+" to 1.1.1.1")
		agree(t, "hostname a\nip prefix-list "+n+" permit 10.0.0.0/8")
	}
}
