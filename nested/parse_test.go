package nested_test

import (
	"fmt"
	"strings"
	"testing"

	"waymark/api"
	"waymark/nested"
	"waymark/tree"
)

// whole has each statement of the language in it, and says a device that may be.
const whole = `system { host-name r1; }
instances { red; blue; }
interfaces {
  e0 { instance red; address 10.0.0.1/24; filter input f; filter output g; nat inside; area 0; metric 5; passive; disable; }
  e1 { address 10.0.1.1/32; nat outside; area 16777216; metric 65535; }
  e2 { }
}
firewall {
  filter f {
    term a { from { protocol tcp; source 10.0.0.0/8; destination 10.1.0.0/16; source-port 1024-65535; destination-port 80; } then accept; }
    term b { from { } then discard; }
    term c { then accept; from { protocol 0; } }
  }
  filter g { }
}
nat { source f to 1.1.1.1; destination g to 2.2.2.2; }
routes {
  route 0.0.0.0/0 next-hop 10.0.0.2;
  route 10.9.0.0/16 discard;
  route 10.9.0.0/16 next-hop 10.0.0.3 instance red preference 255 tag 16777216;
  route 10.8.0.0/16 discard preference 1 tag 0;
}
policy {
  prefix-list p { 10.0.0.0/8; 10.0.0.0/8 upto 24; 10.0.0.0/8 from 16; 10.0.0.0/8 upto 24 from 16 reject; 0.0.0.0/0 reject; }
  community c { members 1:1 1:2; reject 65535:0; }
  statement s {
    default reject;
    term a {
      from { prefix-list p; community c; tag 5; metric 6; as 4294967295; }
      then { metric 7; preference 8; tag 9; community add 1:1 2:2; prepend 65000 65000; next-hop 9.9.9.9; accept; }
    }
    term b { then { community set 3:3; reject; } }
    term c { }
    term d { from { } then { next; } }
  }
  statement t { default accept; }
}
protocols {
  ospf { router-id 1.1.1.1; export direct; export static metric 5 type 1 policy s; }
  ospf red { router-id 1.1.1.2; export bgp type 2; }
  bgp red {
    router-id 1.1.1.3;
    local-as 65000;
    network 10.0.0.0/8;
    network 10.0.0.0/16;
    neighbor 2.2.2.2 { peer-as 65000; import s; export t; client; next-hop-self; }
    neighbor 3.3.3.3 { peer-as 4294967295; }
    export ospf metric 16777216 policy t;
    export static;
  }
}
`

// wholeDevice is what whole says.
func wholeDevice() api.Device {
	every := api.Span{Hi: 65535}
	next := func(seq int) api.Clause {
		return api.Clause{Seq: seq, Action: api.Next, Tag: -1, Metric: -1, Through: -1, SetMetric: -1, SetPref: -1, SetTag: -1}
	}
	deny := next(20)
	deny.Action, deny.SetComm = api.Deny, []uint32{3<<16 + 3}
	ten := api.Prefix{Addr: 0x0A000000, Bits: 8}
	return api.Device{
		Name: "r1", Kind: api.Nested, VRFs: []string{"red", "blue"},
		Ifaces: []api.Iface{
			{Name: "e0", VRF: "red", Addr: 0x0A000001, Bits: 24, Down: true, In: "f", Out: "g", Side: api.Inside, Area: 0, Cost: 5, Passive: true},
			{Name: "e1", Addr: 0x0A000101, Bits: 32, Side: api.Outside, Area: 1 << 24, Cost: 65535},
			{Name: "e2", Area: -1, Cost: 1},
		},
		Filters: []api.Filter{
			{Name: "f", Rules: []api.Rule{
				{Permit: true, Proto: 6, Src: ten, Dst: api.Prefix{Addr: 0x0A010000, Bits: 16}, SrcPorts: api.Span{Lo: 1024, Hi: 65535}, DstPorts: api.Span{Lo: 80, Hi: 80}},
				{Proto: -1, SrcPorts: every, DstPorts: every},
				{Permit: true, SrcPorts: every, DstPorts: every},
			}},
			{Name: "g"},
		},
		Rewrites: []api.Rewrite{{Filter: "f", To: 0x01010101}, {Dest: true, Filter: "g", To: 0x02020202}},
		Statics: []api.Static{
			{Via: 0x0A000002, Dist: 5},
			{Prefix: api.Prefix{Addr: 0x0A090000, Bits: 16}, Discard: true, Dist: 5},
			{VRF: "red", Prefix: api.Prefix{Addr: 0x0A090000, Bits: 16}, Via: 0x0A000003, Dist: 255, Tag: 1 << 24},
			{Prefix: api.Prefix{Addr: 0x0A080000, Bits: 16}, Discard: true, Dist: 1},
		},
		Prefixes: []api.PrefixList{{Name: "p", Entries: []api.Entry{
			{Permit: true, Prefix: ten, Ge: 8, Le: 8}, {Permit: true, Prefix: ten, Ge: 8, Le: 24}, {Permit: true, Prefix: ten, Ge: 16, Le: 32}, {Prefix: ten, Ge: 16, Le: 24}, {},
		}}},
		Communities: []api.CommunityList{{Name: "c", Members: []api.Member{{Permit: true, All: []uint32{65537, 65538}}, {All: []uint32{65535 << 16}}}}},
		Policies: []api.Policy{
			{Name: "s", Clauses: []api.Clause{
				{Seq: 10, Action: api.Permit, Prefixes: "p", Communities: "c", Tag: 5, Metric: 6, Through: 1<<32 - 1, SetMetric: 7, SetPref: 8, SetTag: 9, SetComm: []uint32{65537, 2<<16 + 2}, Add: true, Prepend: []uint32{65000, 65000}, SetHop: 0x09090909},
				deny, next(30), next(40),
			}},
			{Name: "t", Default: true},
		},
		OSPF: []api.OSPF{
			{ID: 0x01010101, From: []api.Redist{{From: api.FromConnected, Metric: -1, Type: 2}, {From: api.FromStatic, Metric: 5, Type: 1, Policy: "s"}}},
			{VRF: "red", ID: 0x01010102, From: []api.Redist{{From: api.FromBGP, Metric: -1, Type: 2}}},
		},
		BGP: []api.BGP{{
			VRF: "red", AS: 65000, ID: 0x01010103, Nets: []api.Prefix{ten, {Addr: 0x0A000000, Bits: 16}},
			Peers: []api.Peer{{Addr: 0x02020202, AS: 65000, In: "s", Out: "t", Client: true, Self: true}, {Addr: 0x03030303, AS: 1<<32 - 1}},
			From:  []api.Redist{{From: api.FromOSPF, Metric: 1 << 24, Policy: "t"}, {From: api.FromStatic, Metric: -1}},
		}},
	}
}

// reads looks whether a text says a device.
func reads(t *testing.T, s string, want api.Device) {
	t.Helper()
	if d, pos, e := nested.Parse(s); e != api.OK || pos != (api.Pos{}) || !alike(d, want) {
		t.Errorf("Parse(%q):\n%+v %v %d, not\n%+v", s, d, pos, e, want)
	}
	agree(t, s)
}

// named is a device of braces with nothing but a name.
func named(change func(d *api.Device)) api.Device {
	d := api.Device{Name: "a", Kind: api.Nested}
	change(&d)
	return d
}

const head = "system { host-name a; } "

// P15.1: the whole language at once, and the chapter's example.
func TestParseWhole(t *testing.T) {
	reads(t, whole, wholeDevice())
	reads(t, "system { host-name a; } interfaces { e0 { address 10.0.0.1/24; area 0; } }", named(func(d *api.Device) {
		d.Ifaces = []api.Iface{{Name: "e0", Addr: 0x0A000001, Bits: 24, Area: 0, Cost: 1}}
	}))
	reads(t, head, named(func(*api.Device) {}))
	reads(t, "instances { } interfaces { } firewall { } nat { } routes { } policy { } protocols { } "+head, named(func(*api.Device) {}))
}

// P15.1: what an interface says by one statement alone.
func TestInterface(t *testing.T) {
	for s, change := range map[string]func(i *api.Iface){
		"":                       func(*api.Iface) {},
		"instance red;":          func(i *api.Iface) { i.VRF = "red" },
		"address 0.0.0.1/1;":     func(i *api.Iface) { i.Addr, i.Bits = 1, 1 },
		"address 10.0.0.255/32;": func(i *api.Iface) { i.Addr, i.Bits = 0x0A0000FF, 32 },
		"address 0.0.0.0/8;":     func(i *api.Iface) { i.Bits = 8 },
		"filter input f;":        func(i *api.Iface) { i.In = "f" },
		"filter output f;":       func(i *api.Iface) { i.Out = "f" },
		"nat inside;":            func(i *api.Iface) { i.Side = api.Inside },
		"nat outside;":           func(i *api.Iface) { i.Side = api.Outside },
		"area 0;":                func(i *api.Iface) { i.Area = 0 },
		"area 16777216;":         func(i *api.Iface) { i.Area = 1 << 24 },
		"metric 1;":              func(i *api.Iface) { i.Cost = 1 },
		"metric 65535;":          func(i *api.Iface) { i.Cost = 65535 },
		"passive;":               func(i *api.Iface) { i.Passive = true },
		"disable;":               func(i *api.Iface) { i.Down = true },
	} {
		i := api.Iface{Name: "e0", Area: -1, Cost: 1}
		change(&i)
		reads(t, head+"interfaces { e0 { "+s+" } }", named(func(d *api.Device) { d.Ifaces = []api.Iface{i} }))
	}
}

// P15.1: what a rule says.
func TestRule(t *testing.T) {
	for s, change := range map[string]func(x *api.Rule){
		"then discard;":                                                 func(*api.Rule) {},
		"then accept;":                                                  func(x *api.Rule) { x.Permit = true },
		"then accept; from { protocol tcp; }":                           func(x *api.Rule) { x.Permit, x.Proto = true, 6 },
		"from { protocol udp; } then discard;":                          func(x *api.Rule) { x.Proto = 17 },
		"from { protocol icmp; } then discard;":                         func(x *api.Rule) { x.Proto = 1 },
		"from { protocol 0; } then discard;":                            func(x *api.Rule) { x.Proto = 0 },
		"from { protocol 255; } then discard;":                          func(x *api.Rule) { x.Proto = 255 },
		"from { source 10.0.0.0/8; } then discard;":                     func(x *api.Rule) { x.Src = api.Prefix{Addr: 0x0A000000, Bits: 8} },
		"from { destination 10.0.0.1/32; } then discard;":               func(x *api.Rule) { x.Dst = api.Prefix{Addr: 0x0A000001, Bits: 32} },
		"from { source-port 0; } then discard;":                         func(x *api.Rule) { x.SrcPorts = api.Span{} },
		"from { source-port 65535; } then discard;":                     func(x *api.Rule) { x.SrcPorts = api.Span{Lo: 65535, Hi: 65535} },
		"from { destination-port 80-80; } then discard;":                func(x *api.Rule) { x.DstPorts = api.Span{Lo: 80, Hi: 80} },
		"from { destination-port 79-80; } then discard;":                func(x *api.Rule) { x.DstPorts = api.Span{Lo: 79, Hi: 80} },
		"from { protocol icmp; destination-port 0-1; } then discard;":   func(x *api.Rule) { x.Proto, x.DstPorts = 1, api.Span{Hi: 1} },
		"from { source 10.0.0.0/8; } then accept; from { protocol 6; }": func(x *api.Rule) { x.Permit, x.Proto, x.Src = true, 6, api.Prefix{Addr: 0x0A000000, Bits: 8} },
	} {
		x := api.Rule{Proto: -1, SrcPorts: api.Span{Hi: 65535}, DstPorts: api.Span{Hi: 65535}}
		change(&x)
		reads(t, head+"firewall { filter f { term t { "+s+" } } }", named(func(d *api.Device) { d.Filters = []api.Filter{{Name: "f", Rules: []api.Rule{x}}} }))
	}
}

// P15.1: how long prefixes may be, by what an entry says.
func TestEntry(t *testing.T) {
	for s, want := range map[string]api.Entry{
		"/8": {Permit: true, Ge: 8, Le: 8}, "/8 upto 8": {Permit: true, Ge: 8, Le: 8}, "/8 upto 32": {Permit: true, Ge: 8, Le: 32}, "/8 from 8": {Permit: true, Ge: 8, Le: 32}, "/8 from 32": {Permit: true, Ge: 32, Le: 32},
		"/8 upto 9 from 9": {Permit: true, Ge: 9, Le: 9}, "/8 upto 9 from 8": {Permit: true, Ge: 8, Le: 9}, "/8 upto 32 from 32": {Permit: true, Ge: 32, Le: 32}, "/8 reject": {Ge: 8, Le: 8}, "/8 upto 9 reject": {Ge: 8, Le: 9}, "/8 from 9 reject": {Ge: 9, Le: 32}, "/8 upto 31 from 30 reject": {Ge: 30, Le: 31},
		"/32": {Permit: true, Ge: 32, Le: 32}, "/32 from 32": {Permit: true, Ge: 32, Le: 32},
	} {
		want.Prefix.Addr, want.Prefix.Bits = 0x0A000000, 8
		if strings.HasPrefix(s, "/32") {
			want.Prefix.Bits = 32
		}
		reads(t, head+"policy { prefix-list p { 10.0.0.0"+s+"; } }", named(func(d *api.Device) { d.Prefixes = []api.PrefixList{{Name: "p", Entries: []api.Entry{want}}} }))
	}
}

// P15.1: what a clause says.
func TestClause(t *testing.T) {
	for s, change := range map[string]func(c *api.Clause){
		"": func(*api.Clause) {}, "from { }": func(*api.Clause) {}, "then { }": func(*api.Clause) {}, "then { next; }": func(*api.Clause) {},
		"then { accept; }":                    func(c *api.Clause) { c.Action = api.Permit },
		"then { reject; }":                    func(c *api.Clause) { c.Action = api.Deny },
		"from { prefix-list p; }":             func(c *api.Clause) { c.Prefixes = "p" },
		"from { community p; }":               func(c *api.Clause) { c.Communities = "p" },
		"from { tag 0; }":                     func(c *api.Clause) { c.Tag = 0 },
		"from { metric 0; }":                  func(c *api.Clause) { c.Metric = 0 },
		"from { tag 16777216; metric 1; }":    func(c *api.Clause) { c.Tag, c.Metric = 1<<24, 1 },
		"from { as 1; }":                      func(c *api.Clause) { c.Through = 1 },
		"from { as 4294967295; }":             func(c *api.Clause) { c.Through = 1<<32 - 1 },
		"then { metric 0; }":                  func(c *api.Clause) { c.SetMetric = 0 },
		"then { preference 0; }":              func(c *api.Clause) { c.SetPref = 0 },
		"then { tag 0; }":                     func(c *api.Clause) { c.SetTag = 0 },
		"then { tag 1; } from { tag 2; }":     func(c *api.Clause) { c.SetTag, c.Tag = 1, 2 },
		"then { community set 0:2 0:1 0:2; }": func(c *api.Clause) { c.SetComm = []uint32{2, 1, 2} },
		"then { community add 0:0; }":         func(c *api.Clause) { c.SetComm, c.Add = []uint32{0}, true },
		"then { prepend 4294967295 1 1; }":    func(c *api.Clause) { c.Prepend = []uint32{1<<32 - 1, 1, 1} },
		"then { next-hop 0.0.0.1; next; }":    func(c *api.Clause) { c.SetHop = 1 },
	} {
		c := api.Clause{Seq: 10, Action: api.Next, Tag: -1, Metric: -1, Through: -1, SetMetric: -1, SetPref: -1, SetTag: -1}
		change(&c)
		reads(t, head+"policy { statement s { term t { "+s+" } } }", named(func(d *api.Device) { d.Policies = []api.Policy{{Name: "s", Default: true, Clauses: []api.Clause{c}}} }))
	}
}

// P15.1: instances of protocols, of any VRF.
func TestProtocols(t *testing.T) {
	reads(t, head+"protocols { bgp { } ospf { } bgp ospf { } ospf bgp { } }", named(func(d *api.Device) {
		d.OSPF, d.BGP = []api.OSPF{{}, {VRF: "bgp"}}, []api.BGP{{}, {VRF: "ospf"}}
	}))
	reads(t, head+"protocols { ospf { export bgp; export direct metric 0; export static type 1; export bgp policy p; router-id 0.0.0.0; } }", named(func(d *api.Device) {
		d.OSPF = []api.OSPF{{From: []api.Redist{{From: api.FromBGP, Metric: -1, Type: 2}, {From: api.FromConnected, Type: 2}, {From: api.FromStatic, Metric: -1, Type: 1}, {From: api.FromBGP, Metric: -1, Type: 2, Policy: "p"}}}}
	}))
	reads(t, head+"protocols { bgp { export ospf; export direct metric 0; neighbor 0.0.0.0 { } neighbor 1.1.1.1 { client; } neighbor 1.1.1.2 { next-hop-self; import a; } neighbor 1.1.1.3 { export a; peer-as 1; } network 0.0.0.0/0; local-as 4294967295; } }", named(func(d *api.Device) {
		d.BGP = []api.BGP{{AS: 1<<32 - 1, Nets: []api.Prefix{{}}, From: []api.Redist{{From: api.FromOSPF, Metric: -1}, {From: api.FromConnected}},
			Peers: []api.Peer{{}, {Addr: 0x01010101, Client: true}, {Addr: 0x01010102, Self: true, In: "a"}, {Addr: 0x01010103, Out: "a", AS: 1}}}}
	}))
}

// P15.1: all stand in the order in which they are said, which is that of the blocks when they are put together; leaves of the same words are one.
func TestOrder(t *testing.T) {
	reads(t, "interfaces { b { area 1; } } instances { z; } interfaces { a { } b { passive; area 1; } } instances { y; z; x; } "+head+"system { host-name a; }", named(func(d *api.Device) {
		d.VRFs = []string{"z", "y", "x"}
		d.Ifaces = []api.Iface{{Name: "b", Area: 1, Cost: 1, Passive: true}, {Name: "a", Area: -1, Cost: 1}}
	}))
	reads(t, head+"policy { statement s { term b { then { tag 1; } } term a { } term b { then { accept; tag 1; } } } }", named(func(d *api.Device) {
		b := api.Clause{Seq: 10, Action: api.Permit, Tag: -1, Metric: -1, Through: -1, SetMetric: -1, SetPref: -1, SetTag: 1}
		a := api.Clause{Seq: 20, Action: api.Next, Tag: -1, Metric: -1, Through: -1, SetMetric: -1, SetPref: -1, SetTag: -1}
		d.Policies = []api.Policy{{Name: "s", Default: true, Clauses: []api.Clause{b, a}}}
	}))
	reads(t, head+"nat { source f to 1.1.1.1; destination f to 1.1.1.1; source f to 1.1.1.1; source f to 1.1.1.2; } policy { community c { members [ 0:1 0:2 0:1 ]; reject 0:1; } }", named(func(d *api.Device) {
		d.Rewrites = []api.Rewrite{{Filter: "f", To: 0x01010101}, {Dest: true, Filter: "f", To: 0x01010101}, {Filter: "f", To: 0x01010102}}
		d.Communities = []api.CommunityList{{Name: "c", Members: []api.Member{{Permit: true, All: []uint32{1}}, {Permit: true, All: []uint32{2}}, {All: []uint32{1}}}}}
	}))
	// Unlike words say one more, also if they say the same.
	reads(t, head+"routes { route 10.0.0.0/8 discard; route 10.0.0.0/8 discard preference 5; route 10.0.0.0/8 discard; }", named(func(d *api.Device) {
		s := api.Static{Prefix: api.Prefix{Addr: 0x0A000000, Bits: 8}, Discard: true, Dist: 5}
		d.Statics = []api.Static{s, s}
	}))
}

// P15.1: names are names alone, wherever they stand, and words of the language may be names.
func TestNames(t *testing.T) {
	names := []string{strings.Repeat("n", 32), strings.Repeat("n", 33), "a!", "1a", ".a", "/", "a/b.c-d_e", "groups", "system", "then", "\"a\"", "\"a b\"", "\"\"", "<*>", "instance", "discard", "apply-groups"}
	for _, n := range names {
		for _, s := range []string{
			"system { host-name %s; }", head + "instances { %s; }", head + "interfaces { %s { } }", head + "interfaces { e { instance %s; filter input %[1]s; filter output %[1]s; } }", head + "firewall { filter %s { term %[1]s { then accept; } } }", head + "nat { source %s to 1.1.1.1; }",
			head + "routes { route 10.0.0.0/8 discard instance %s preference 7; }", head + "policy { prefix-list %s { } }", head + "policy { community %s { } }", head + "policy { statement %s { term %[1]s { from { prefix-list %[1]s; community %[1]s; } } } }",
			head + "protocols { ospf %s { export static metric 7 policy %[1]s; } bgp %[1]s { neighbor 1.1.1.1 { import %[1]s; export %[1]s; } export static policy %[1]s; } }",
		} {
			text := fmt.Sprintf(s, n)
			e := agree(t, text)
			bare := strings.Trim(n, "\"")
			applied := n == "apply-groups" && (strings.Contains(s, "instances") || strings.Contains(s, "{ %s {"))
			if ok := isName(bare) && !applied; ok != (e == api.OK) {
				t.Error(text, e)
			}
		}
	}
}

// P15.1: Read puts together what Parse does, and knows no groups.
func TestReadKnown(t *testing.T) {
	l, _, _ := tree.Parse(whole)
	if d, pos, e := nested.Read(l); e != api.OK || pos != (api.Pos{}) || !alike(d, wholeDevice()) {
		t.Error(d, pos, e)
	}
	l = []tree.Node{block("interfaces", block("e0", leaf("area 1"))), block("system", leaf("host-name a")), block("interfaces", block("e0", leaf("metric 7"), leaf("area 1")), block("groups"), block("apply-groups")), block("instances", leaf("apply-groups"), leaf("groups"))}
	want := named(func(d *api.Device) {
		d.VRFs = []string{"apply-groups", "groups"}
		d.Ifaces = []api.Iface{{Name: "e0", Area: 1, Cost: 7}, {Name: "groups", Area: -1, Cost: 1}, {Name: "apply-groups", Area: -1, Cost: 1}}
	})
	if d, pos, e := nested.Read(l); e != api.OK || pos != (api.Pos{}) || !alike(d, want) {
		t.Error(d, pos, e)
	}
	for s, want := range map[string]api.Pos{
		"groups { } system { host-name a; }": {Line: 1, Col: 1}, "groups { g { system { host-name a; } } } apply-groups g;": {Line: 1, Col: 1}, "system { host-name a; } apply-groups g;": {Line: 1, Col: 25}, "system { apply-groups g; host-name a; }": {Line: 1, Col: 10},
	} {
		l, _, _ := tree.Parse(s)
		if d, pos, e := nested.Read(l); e != api.ErrWord || pos != want || !alike(d, api.Device{}) {
			t.Errorf("Read(%q): %v %v %v", s, d, pos, e)
		}
	}
	if d, pos, e := nested.Read(nil); e != api.ErrNone || pos != (api.Pos{}) || !alike(d, api.Device{}) {
		t.Error(d, pos, e)
	}
}
