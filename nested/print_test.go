package nested_test

import (
	"fmt"
	"math/rand"
	"slices"
	"strings"
	"testing"

	"waymark/api"
	"waymark/flat"
	"waymark/model"
	"waymark/nested"
	"waymark/tree"
)

// printed looks whether Print writes a text that says a device, by Parse and by the tests' own reckoning.
func printed(t *testing.T, d api.Device) string {
	t.Helper()
	s, e := nested.Print(d)
	if e != api.OK {
		t.Fatalf("Print(%+v): %v", d, e)
	}
	if again, pos, e := nested.Parse(s); e != api.OK || !alike(again, d) {
		t.Fatalf("Parse(%q): %+v %v %v, not %+v", s, again, pos, e, d)
	}
	if again, pos, e := expected(s); e != api.OK || !alike(again, d) {
		t.Fatalf("%q says %+v %v %v, not %+v", s, again, pos, e, d)
	}
	return s
}

// P15.2, P15.3: known devices; what need not be said is not, and each statement stands in a line.
func TestPrintKnown(t *testing.T) {
	if s := printed(t, named(func(*api.Device) {})); s != "system {\n    host-name a;\n}\n" {
		t.Errorf("%q", s)
	}
	s := printed(t, named(func(d *api.Device) {
		d.VRFs = []string{"red"}
		d.Ifaces = []api.Iface{{Name: "e0", Area: -1, Cost: 1}, {Name: "e1", VRF: "red", Area: 0, Cost: 1}}
	}))
	if s != "system {\n    host-name a;\n}\ninstances {\n    red;\n}\ninterfaces {\n    e0 {\n    }\n    e1 {\n        instance red;\n        area 0;\n    }\n}\n" {
		t.Errorf("%q", s)
	}
	s = printed(t, named(func(d *api.Device) {
		d.Filters = []api.Filter{{Name: "f", Rules: []api.Rule{{Proto: -1, SrcPorts: api.Span{Hi: 65535}, DstPorts: api.Span{Lo: 80, Hi: 80}}, {Permit: true, Proto: -1, SrcPorts: api.Span{Hi: 65535}, DstPorts: api.Span{Hi: 65535}}}}}
		d.Prefixes = []api.PrefixList{{Name: "p", Entries: []api.Entry{{Permit: true, Ge: 8, Le: 32}}}}
	}))
	if _, s, _ = strings.Cut(s, "firewall"); s != " {\n    filter f {\n        term a {\n            from {\n                destination-port 80;\n            }\n            then discard;\n        }\n        term b {\n            then accept;\n        }\n    }\n}\npolicy {\n    prefix-list p {\n        0.0.0.0/0 from 8;\n    }\n}\n" {
		t.Errorf("%q", s)
	}
	printed(t, wholeDevice())
	// A device that may be, but whose things stand in another order.
	d := wholeDevice()
	slices.Reverse(d.VRFs)
	slices.Reverse(d.Ifaces)
	slices.Reverse(d.Filters)
	slices.Reverse(d.Statics)
	slices.Reverse(d.OSPF)
	printed(t, d)
}

// P15.2, P15.3: any devices that can be written are, and are read as they were; they are not changed.
func TestPrintAny(t *testing.T) {
	r := rand.New(rand.NewSource(3))
	for range 800 {
		d := anyDevice(r)
		if what, e := model.Check(d); e != api.OK || !canBeWritten(d) {
			t.Fatal("the test's device can't be written:", what, e, d)
		}
		was := model.Twin(d)
		printed(t, d)
		if !alike(d, was) {
			t.Fatal("changed", d, was)
		}
	}
}

// P15.2, P15.3: what is read out of a text, and can be written, is.
func TestPrintWhatIsRead(t *testing.T) {
	r := rand.New(rand.NewSource(33))
	// What any text of the tests may name.
	ahead := "system { host-name h; } instances { %s; } firewall { filter %[1]s { } } policy { prefix-list %[1]s { } community %[1]s { } statement %[1]s { } } "
	names := ""
	for _, n := range []string{"a", "b", "c", "instance", "discard", "policy", "tag", "ge-0/0", strings.Repeat("n", 32)} {
		names += fmt.Sprintf(ahead, n)
	}
	written := 0
	for range 1200 {
		kind := pick(r, "interfaces", "firewall", "nat", "routes", "policy")
		l, _, _ := tree.Parse(names)
		l = append(l, block(kind, anyStatements(r, kind, 5, 1000)...))
		d, _, e := nested.Read(l)
		if e != api.OK || !canBeWritten(d) {
			continue
		}
		written++
		printed(t, d)
	}
	if written < 300 {
		t.Error("written:", written)
	}
}

// P15.2: devices that can't be written, by each of the chapter's conditions.
func TestNotWritten(t *testing.T) {
	for name, change := range map[string]func(d *api.Device){
		"nothing":                   func(d *api.Device) { *d = api.Device{} },
		"no name":                   func(d *api.Device) { d.Name = "" },
		"a name that is none":       func(d *api.Device) { d.Name = "a b" },
		"a name of two statements":  func(d *api.Device) { d.Name = "a;}instances{x" },
		"flat":                      func(d *api.Device) { d.Kind = api.Flat },
		"no kind":                   func(d *api.Device) { d.Kind = 0 },
		"a VRF that is not there":   func(d *api.Device) { d.Ifaces[0].VRF = "x" },
		"a filter not there":        func(d *api.Device) { d.Ifaces[0].In = "x" },
		"a policy not there":        func(d *api.Device) { d.BGP[0].Peers[0].In = "x" },
		"a VRF twice":               func(d *api.Device) { d.VRFs = append(d.VRFs, d.VRFs[0]) },
		"a cost":                    func(d *api.Device) { d.Ifaces[0].Cost = 0 },
		"an area":                   func(d *api.Device) { d.Ifaces[0].Area = top + 1 },
		"no ID":                     func(d *api.Device) { d.OSPF[0].ID = 0 },
		"no AS":                     func(d *api.Device) { d.BGP[0].AS = 0 },
		"a VRF that applies":        func(d *api.Device) { d.VRFs = append(d.VRFs, "apply-groups") },
		"an interface that applies": func(d *api.Device) { d.Ifaces[1].Name = "apply-groups" },
		"a jump":                    func(d *api.Device) { d.Policies[0].Clauses[0].Jump = 20 },
		"a jump of the last clause": func(d *api.Device) { d.Policies[0].Clauses[3].Jump = 50 },
		"a first Seq":               func(d *api.Device) { d.Policies[0].Clauses[0].Seq = 9 },
		"a last Seq":                func(d *api.Device) { d.Policies[0].Clauses[3].Seq = 50 },
		"a Seq left out":            func(d *api.Device) { d.Policies[0].Clauses = slices.Delete(d.Policies[0].Clauses, 1, 2) },
		"a member of none":          func(d *api.Device) { d.Communities[0].Members[1].All = nil },
		"the first member of none":  func(d *api.Device) { d.Communities[0].Members[0].All = []uint32{} },
		"a rewrite of all":          func(d *api.Device) { d.Rewrites[1].Filter = "" },
		"the first rewrite of all":  func(d *api.Device) { d.Rewrites[0].Filter = "" },
		"a rewrite twice":           func(d *api.Device) { d.Rewrites = append(d.Rewrites, d.Rewrites[0]) },
		"a static twice":            func(d *api.Device) { d.Statics = append(d.Statics, d.Statics[1]) },
		"a static to a hop twice":   func(d *api.Device) { d.Statics = append(d.Statics, d.Statics[2]) },
		"an entry twice":            func(d *api.Device) { d.Prefixes[0].Entries[4] = d.Prefixes[0].Entries[0] },
		"a member twice":            func(d *api.Device) { d.Communities[0].Members[1] = d.Communities[0].Members[0] },
		"a redist twice in OSPF":    func(d *api.Device) { d.OSPF[0].From[1] = d.OSPF[0].From[0] },
		"a redist twice in BGP":     func(d *api.Device) { d.BGP[0].From = append(d.BGP[0].From, d.BGP[0].From[0]) },
		"two sides in OSPF":         func(d *api.Device) { d.OSPF[0].From[1].From = api.FromConnected | api.FromBGP },
		"two sides in BGP":          func(d *api.Device) { d.BGP[0].From[0].From = api.FromStatic | api.FromOSPF },
		"three sides":               func(d *api.Device) { d.BGP[0].From[0].From = 7 },
		"no side":                   func(d *api.Device) { d.BGP[0].From[0].From = 0 },
		"its own side":              func(d *api.Device) { d.BGP[0].From[0].From = api.FromBGP },
		"an action that is none":    func(d *api.Device) { d.Policies[0].Clauses[0].Action = 3 },
	} {
		d := model.Twin(wholeDevice())
		change(&d)
		if canBeWritten(d) {
			t.Error(name, "can be written")
		}
		if s, e := nested.Print(d); e != api.ErrModel || s != "" {
			t.Errorf("%s: %q %v", name, s, e)
		}
	}
}

// P15.2, P15.3: devices that are near to those that can't be written.
func TestWrittenStill(t *testing.T) {
	for name, change := range map[string]func(d *api.Device){
		"names of groups": func(d *api.Device) { d.VRFs, d.Ifaces[1].Name = append(d.VRFs, "groups", "apply-groups-"), "groups" },
		"apply-groups elsewhere": func(d *api.Device) {
			d.Name, d.Filters[1].Name, d.Rewrites[1].Filter, d.Ifaces[0].Out = "apply-groups", "apply-groups", "apply-groups", "apply-groups"
		},
		"a list of no entries":       func(d *api.Device) { d.Prefixes[0].Entries = nil },
		"a list of no members":       func(d *api.Device) { d.Communities[0].Members = nil },
		"a policy of no clauses":     func(d *api.Device) { d.Policies[0].Clauses = nil },
		"a filter of no rules":       func(d *api.Device) { d.Filters[0].Rules = nil },
		"rules that are the same":    func(d *api.Device) { d.Filters[0].Rules = append(d.Filters[0].Rules, d.Filters[0].Rules...) },
		"ports of any protocol":      func(d *api.Device) { d.Filters[0].Rules[1].SrcPorts = api.Span{} },
		"rewrites that differ by To": func(d *api.Device) { d.Rewrites = append(d.Rewrites, api.Rewrite{Filter: "f", To: 1}) },
		"rewrites that differ by end": func(d *api.Device) {
			d.Rewrites = append(d.Rewrites, api.Rewrite{Dest: true, Filter: "f", To: 0x01010101})
		},
		"statics that differ by VRF":  func(d *api.Device) { d.Statics[1] = d.Statics[2]; d.Statics[1].VRF = "" },
		"statics that differ by Dist": func(d *api.Device) { d.Statics[1] = d.Statics[2]; d.Statics[1].Dist = 5 },
		"statics that differ by Tag":  func(d *api.Device) { d.Statics[1] = d.Statics[2]; d.Statics[1].Tag = 0 },
		"statics that differ by Via":  func(d *api.Device) { d.Statics[1] = d.Statics[2]; d.Statics[1].Via++ },
		"entries that differ": func(d *api.Device) {
			d.Prefixes[0].Entries[1] = d.Prefixes[0].Entries[0]
			d.Prefixes[0].Entries[1].Permit = false
		},
		"members in another order": func(d *api.Device) {
			d.Communities[0].Members[1] = api.Member{Permit: true, All: []uint32{65538, 65537}}
		},
		"members that differ": func(d *api.Device) { d.Communities[0].Members[1] = api.Member{All: []uint32{65537, 65538}} },
		"members that are longer": func(d *api.Device) {
			d.Communities[0].Members[1] = api.Member{Permit: true, All: []uint32{65537, 65538, 65538}}
		},
		"redists that differ by type":   func(d *api.Device) { d.OSPF[0].From[1] = d.OSPF[0].From[0]; d.OSPF[0].From[1].Type = 1 },
		"redists that differ by metric": func(d *api.Device) { d.BGP[0].From[1] = d.BGP[0].From[0]; d.BGP[0].From[1].Metric = -1 },
		"the same in two instances":     func(d *api.Device) { d.OSPF[1].From = d.OSPF[0].From },
		"the same in two lists": func(d *api.Device) {
			d.Prefixes = append(d.Prefixes, api.PrefixList{Name: "q", Entries: d.Prefixes[0].Entries})
			d.Communities = append(d.Communities, api.CommunityList{Name: "q", Members: d.Communities[0].Members})
		},
	} {
		d := model.Twin(wholeDevice())
		change(&d)
		if !canBeWritten(d) {
			t.Error(name, "can't be written")
		}
		printed(t, d)
	}
}

// P15.2: any changes of a device that can be written: it is written just if it still can be.
func TestPrintChanged(t *testing.T) {
	r := rand.New(rand.NewSource(31))
	written := 0
	for range 1500 {
		d := anyDevice(r)
		change(r, &d)
		s, e := nested.Print(d)
		switch {
		case canBeWritten(d):
			written++
			printed(t, d)
		case e != api.ErrModel || s != "":
			t.Fatalf("Print(%+v): %q %v", d, s, e)
		}
	}
	if written < 400 || written > 1300 {
		t.Error("written:", written)
	}
}

// P15.2, P15.3: as many things as may be.
func TestPrintMostThings(t *testing.T) {
	most := named(func(d *api.Device) {
		for i := range api.MaxRules {
			d.VRFs = append(d.VRFs, fmt.Sprint("v", i))
			d.Statics = append(d.Statics, api.Static{Prefix: api.Prefix{Addr: api.Addr(i) << 24, Bits: 8}, Discard: true, Dist: 5})
			d.Prefixes = append(d.Prefixes, api.PrefixList{Name: fmt.Sprint("p", i)})
		}
		for i := range api.MaxIfaces {
			d.Ifaces = append(d.Ifaces, api.Iface{Name: fmt.Sprint("e", i), Addr: api.Addr(i + 1), Bits: 32, Area: -1, Cost: 1})
		}
	})
	printed(t, most)
	p := api.Policy{Name: "p", Default: true}
	f := api.Filter{Name: "f"}
	for i := range api.MaxRules {
		p.Clauses = append(p.Clauses, api.Clause{Seq: 10 * (i + 1), Tag: i, Metric: -1, Through: -1, SetMetric: -1, SetPref: -1, SetTag: -1})
		f.Rules = append(f.Rules, api.Rule{Proto: i, SrcPorts: api.Span{Hi: 65535}, DstPorts: api.Span{Lo: 10000, Hi: 20000}, Src: api.Prefix{Addr: 0xFFFFFF00 + api.Addr(i), Bits: 32}})
	}
	printed(t, named(func(d *api.Device) { d.Policies = []api.Policy{p} }))
	printed(t, named(func(d *api.Device) { d.Filters = []api.Filter{f} }))
	// Too much for lines of their own.
	s := printed(t, named(func(d *api.Device) { d.Filters, d.Policies = []api.Filter{f}, []api.Policy{p} }))
	if strings.Contains(s, "\n") {
		t.Error(len(s))
	}
	f.Rules = append(f.Rules, f.Rules[0])
	if s, e := nested.Print(named(func(d *api.Device) { d.Filters = []api.Filter{f} })); e != api.ErrModel || s != "" {
		t.Error(e, s)
	}
}

// filled is a device whose text has just so many bytes, if it has no blank that need not be.
func filled(bytes int) api.Device {
	return named(func(d *api.Device) {
		left := bytes - len("system{host-name a;}instances{}policy{community n{}}")
		l := api.CommunityList{Name: "n"}
		for length := len("members;") + len(" 1:1")*api.MaxPath; left > length+100; left -= length {
			// No two are the same.
			all, n := slices.Repeat([]uint32{65537}, api.MaxPath), len(l.Members)
			all[n%api.MaxPath] += uint32(1 + n/api.MaxPath)
			l.Members = append(l.Members, api.Member{Permit: true, All: all})
		}
		d.Communities = []api.CommunityList{l}
		for left > 0 {
			length := api.MaxName + len(";")
			switch {
			case left <= length:
				length = left
			case left <= 2*length:
				// The last two share what is left.
				length = left / 2
			}
			left -= length
			d.VRFs = append(d.VRFs, fmt.Sprintf("v%0*d", length-len("v;"), len(d.VRFs)))
		}
	})
}

// P15.2, P15.3: what takes a whole text can be written; what is too much for one can't.
func TestPrintLongest(t *testing.T) {
	for _, bytes := range []int{api.MaxText - 300, api.MaxText - 1, api.MaxText} {
		d := filled(bytes)
		if s := printed(t, d); len(s) != bytes {
			t.Error(bytes, len(s))
		}
	}
	for bytes := api.MaxText + 1; bytes < api.MaxText+100; bytes++ {
		d := filled(bytes)
		if s, e := nested.Print(d); !canBeWritten(d) || e != api.ErrModel || s != "" {
			t.Error(bytes, e, len(s))
		}
	}
	for bytes := api.MaxText - 30; bytes < api.MaxText+5; bytes++ {
		// More stands behind what fits.
		d := filled(bytes)
		d.BGP = []api.BGP{{AS: 1, ID: 1}}
		if s, e := nested.Print(d); !canBeWritten(d) || e != api.ErrModel || s != "" {
			t.Error(bytes, e, len(s))
		}
	}
	// All there may be of some kinds at once, far beyond a text.
	d := filled(api.MaxText + 1)
	d.VRFs = nil
	for i := range api.MaxRules {
		d.Policies = append(d.Policies, api.Policy{Name: fmt.Sprint("p", i)})
		for k := range api.MaxRules {
			c := api.Clause{Seq: 10 * (k + 1), Tag: -1, Metric: -1, Through: -1, SetMetric: -1, SetPref: -1, SetTag: -1, Prepend: slices.Repeat([]uint32{1}, api.MaxPath)}
			d.Policies[i].Clauses = append(d.Policies[i].Clauses, c)
		}
	}
	if s, e := nested.Print(d); !canBeWritten(d) || e != api.ErrModel || s != "" {
		t.Error(e, len(s))
	}
}

// P15.4: a device that can be written in both languages is read out of both as the same.
func TestBothLanguages(t *testing.T) {
	both := func(d api.Device) {
		t.Helper()
		d.Kind = api.Flat
		s, e := flat.Print(d)
		lines, _, no := flat.Parse(s)
		if e != api.OK || no != api.OK || !alike(lines, d) {
			t.Fatalf("%q: %v %v %+v, not %+v", s, e, no, lines, d)
		}
		d.Kind = api.Nested
		printed(t, d)
	}
	r := rand.New(rand.NewSource(4))
	for range 500 {
		d := anyDevice(r)
		for i := range d.Policies {
			p := &d.Policies[i]
			p.Default = false
			if len(p.Clauses) == 0 {
				p.Clauses = []api.Clause{anyClause(r, &d, 10)}
			}
		}
		for i := range d.Prefixes {
			if l := &d.Prefixes[i]; len(l.Entries) == 0 {
				l.Entries = []api.Entry{anyEntry(r)}
			}
		}
		for i := range d.Communities {
			if l := &d.Communities[i]; len(l.Members) == 0 {
				l.Members = []api.Member{{All: anyNumbers(r, 1, 3)}}
			}
		}
		for _, f := range d.Filters {
			for i := range f.Rules {
				f.Rules[i].Proto = []int{6, 17}[i%2]
			}
		}
		both(d)
	}
	// What each language leaves out: the one's is said in the other.
	for _, cost := range []int{1, 10} {
		for _, dist := range []int{1, 5} {
			both(named(func(d *api.Device) {
				d.Ifaces = []api.Iface{{Name: "e0", Area: -1, Cost: cost}}
				d.Statics = []api.Static{{Discard: true, Dist: dist}}
				d.OSPF = []api.OSPF{{ID: 1, From: []api.Redist{{From: api.FromStatic, Metric: -1, Type: 2}, {From: api.FromStatic, Metric: -1, Type: 1}}}}
				d.Policies = []api.Policy{{Name: "p", Clauses: []api.Clause{{Seq: 10, Action: api.Next, Tag: -1, Metric: -1, Through: -1, SetMetric: -1, SetPref: -1, SetTag: -1}}}}
			}))
		}
	}
}

// P15.4: known texts of both languages that say the same.
func TestBothKnown(t *testing.T) {
	a, _, e := flat.Parse("hostname a\nvrf red\ninterface e0\n vrf red\n address 10.0.0.1 255.255.255.0\n ospf area 0\n ospf cost 1\nip route vrf red 10.0.0.0 255.0.0.0 10.0.0.2 distance 5\nip filter f\n permit tcp 10.0.0.0 0.255.255.255 any eq 80\nip prefix-list p permit 10.0.0.0/8 ge 16\nroute-map m permit 10\n match prefix-list p\n set metric 5\nrouter ospf vrf red\n router-id 1.1.1.1\n redistribute static\nrouter bgp 65000\n router-id 1.1.1.2\n neighbor 10.0.0.2 as 65001\n neighbor 10.0.0.2 route-map m in\n redistribute connected metric 7\n")
	b, _, no := nested.Parse("system { host-name a; } instances { red; } interfaces { e0 { instance red; address 10.0.0.1/24; area 0; } } routes { route 10.0.0.0/8 next-hop 10.0.0.2 instance red; } firewall { filter f { term x { from { protocol tcp; source 10.0.0.0/8; destination-port 80; } then accept; } } } policy { prefix-list p { 10.0.0.0/8 from 16; } statement m { default reject; term x { from { prefix-list p; } then { metric 5; accept; } } } } protocols { ospf red { router-id 1.1.1.1; export static; } bgp { router-id 1.1.1.2; local-as 65000; neighbor 10.0.0.2 { peer-as 65001; import m; } export direct metric 7; } }")
	if a.Kind != api.Flat || b.Kind != api.Nested {
		t.Error(a.Kind, b.Kind)
	}
	a.Kind = api.Nested
	if e != api.OK || no != api.OK || !alike(a, b) {
		t.Errorf("%v %+v, %v %+v", e, a, no, b)
	}
}
