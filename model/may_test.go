package model_test

import (
	"fmt"
	"slices"
	"testing"

	"waymark/api"
	"waymark/model"
)

// mays are changes that leave the device one that may be: the ends of what each field may be.
func mays() map[string]func(*api.Device) {
	all := map[string]func(*api.Device){}
	put := func(field string, value any, change func(*api.Device)) {
		all[fmt.Sprint(field, " ", value)] = change
	}
	for _, s := range areNames {
		put("name", s, func(d *api.Device) { d.Name = s })
		put("vrf", s, func(d *api.Device) { d.VRFs = append(d.VRFs, s) })
		put("iface", s, func(d *api.Device) { d.Ifaces[3].Name = s })
		put("filter", s, func(d *api.Device) { d.Filters[2].Name = s })
		put("prefixes", s, func(d *api.Device) { d.Prefixes[2].Name = s })
		put("communities", s, func(d *api.Device) { d.Communities[2].Name = s })
		put("policy", s, func(d *api.Device) { d.Policies[2].Name = s })
	}
	put("kind", "flat", func(d *api.Device) { d.Kind = api.Flat })
	put("names", "of several kinds", func(d *api.Device) {
		d.VRFs[2], d.Ifaces[3].Name, d.Filters[2].Name, d.Prefixes[2].Name, d.Communities[2].Name, d.Policies[2].Name = "a", "a", "a", "a", "a", "a"
		d.OSPF[2].VRF, d.BGP[2].VRF = "a", "a"
	})
	put("names", "differ in one letter's case", func(d *api.Device) { d.Ifaces[3].Name = "E0" })
	mayIfaces(put)
	mayRoutes(put)
	mayClauses(put)
	mayRedists(put)
	return all
}

type putMay func(field string, value any, change func(*api.Device))

func mayIfaces(put putMay) {
	for _, x := range [][2]uint32{{0, 0}, {9, 1}, {9, 32}, {1 << 31, 24}, {0xFFFFFFFF, 8}, {0x0A030000, 16}} {
		put("address", x, func(d *api.Device) { d.Ifaces[3].Addr, d.Ifaces[3].Bits = api.Addr(x[0]), int(x[1]) })
	}
	for n := range uint8(3) {
		put("side", n, func(d *api.Device) { d.Ifaces[3].Side = n })
	}
	for _, n := range []int{-1, 0, 1, 1 << 24} {
		put("area", n, func(d *api.Device) { d.Ifaces[3].Area = n })
	}
	for _, n := range []int{1, 2, 65535} {
		put("cost", n, func(d *api.Device) { d.Ifaces[3].Cost = n })
	}
	put("down", "", func(d *api.Device) { d.Ifaces[3].Down, d.Ifaces[3].Passive = true, true })
	put("all named", "", func(d *api.Device) {
		d.Ifaces[3].VRF, d.Ifaces[3].In, d.Ifaces[3].Out, d.Rewrites[2].Filter = "spare", "spare", "spare", "spare"
		d.Statics[4].VRF = "spare"
		d.Policies[2].Clauses[1].Prefixes, d.Policies[2].Clauses[1].Communities = "spare", "spare"
		d.OSPF[2].From[0].Policy, d.BGP[2].From[0].Policy, d.BGP[2].Peers[0].In, d.BGP[2].Peers[0].Out = "spare", "spare", "spare", "spare"
	})
	put("rules", "none", func(d *api.Device) { d.Filters[0].Rules = nil })
	put("to", 1<<32-1, func(d *api.Device) { d.Rewrites[2].To = 1<<32 - 1 })
}

func mayRoutes(put putMay) {
	for _, n := range []int{1, 255} {
		put("dist", n, func(d *api.Device) { d.Statics[4].Dist = n })
	}
	for _, n := range []int{0, 1, 1 << 24} {
		put("tag", n, func(d *api.Device) { d.Statics[4].Tag = n })
	}
	put("via", 1, func(d *api.Device) { d.Statics[4].Via, d.Statics[4].Discard = 1, false })
	put("static", "twice", func(d *api.Device) { d.Statics[4] = d.Statics[0] })
	put("rewrite", "twice", func(d *api.Device) { d.Rewrites[2] = d.Rewrites[0] })
	for _, p := range []api.Prefix{{}, {Bits: 32}, {Addr: 0xFFFFFFFF, Bits: 32}, {Addr: 1 << 31, Bits: 1}} {
		put("prefix", p, func(d *api.Device) { d.Statics[4].Prefix = p })
		put("net", p, func(d *api.Device) { d.BGP[2].Nets = []api.Prefix{p, ten} })
	}
	put("net", "of fewer bits", func(d *api.Device) {
		d.BGP[2].Nets = []api.Prefix{ten, {Addr: ten.Addr, Bits: 9}, {Addr: ten.Addr, Bits: 7}}
	})
	for _, e := range []api.Entry{{}, {Le: 32}, {Ge: 32, Le: 32}, {Ge: 5, Le: 5}, {Prefix: ten, Ge: 8, Le: 8}, {Prefix: ten, Ge: 8, Le: 32}, {Prefix: ten, Ge: 32, Le: 32}, {Prefix: api.Prefix{Addr: 7, Bits: 32}, Ge: 32, Le: 32}} {
		put("entry", e, func(d *api.Device) { d.Prefixes[2].Entries = []api.Entry{e, e} })
	}
	for _, n := range []int{0, 1, api.MaxPath} {
		put("member", n, func(d *api.Device) {
			d.Communities[2].Members = []api.Member{{All: make([]uint32, n)}, {All: make([]uint32, n)}}
		})
	}
}

func mayClauses(put putMay) {
	clauseOf := func(field string, value any, change func(*api.Clause)) {
		put(field, value, func(d *api.Device) { change(&d.Policies[2].Clauses[1]) })
	}
	for _, n := range []int{11, 65535} {
		clauseOf("seq", n, func(c *api.Clause) { c.Seq = n })
	}
	put("seq", 1, func(d *api.Device) { d.Policies[2].Clauses[0].Seq = 1 })
	put("clauses", "none", func(d *api.Device) { d.Policies[2] = api.Policy{Name: "spare", Default: true} })
	for n := range uint8(3) {
		clauseOf("action", n, func(c *api.Clause) { c.Action = n })
	}
	for _, n := range []int{-1, 0, 1, 1 << 24} {
		clauseOf("numbers", n, func(c *api.Clause) { c.Tag, c.Metric, c.SetMetric, c.SetPref, c.SetTag = n, n, n, n, n })
	}
	for _, n := range []int{-1, 1, 1 << 24, 1<<32 - 1} {
		clauseOf("through", n, func(c *api.Clause) { c.Through = n })
	}
	clauseOf("community", "most", func(c *api.Clause) { c.SetComm, c.Add = make([]uint32, api.MaxPath), true })
	clauseOf("community", "one", func(c *api.Clause) { c.SetComm, c.Add = []uint32{0}, true })
	clauseOf("community", "set", func(c *api.Clause) { c.SetComm = []uint32{1<<32 - 1} })
	clauseOf("prepend", "most", func(c *api.Clause) { c.Prepend = slices.Repeat([]uint32{1<<32 - 1}, api.MaxPath) })
	clauseOf("hop", 1<<32-1, func(c *api.Clause) { c.SetHop = 1<<32 - 1 })
	for _, n := range []int{0, 21, 30, 65535} {
		clauseOf("jump", n, func(c *api.Clause) { c.Jump = n })
	}
}

func mayRedists(put putMay) {
	for n := uint8(1); n < 16; n++ {
		if n&api.FromOSPF == 0 {
			put("ospf from", n, func(d *api.Device) { d.OSPF[2].From[0].From = n })
		}
		if n&api.FromBGP == 0 {
			put("bgp from", n, func(d *api.Device) { d.BGP[2].From[0].From = n })
		}
	}
	for _, n := range []int{-1, 0, 1, 1 << 24} {
		put("redist metric", n, func(d *api.Device) { d.OSPF[2].From[0].Metric, d.BGP[2].From[0].Metric = n, n })
	}
	for _, n := range []uint8{1, 2} {
		put("type", n, func(d *api.Device) { d.OSPF[2].From[0].Type = n })
	}
	put("redist", "twice", func(d *api.Device) {
		d.OSPF[2].From, d.BGP[2].From = append(d.OSPF[2].From, d.OSPF[2].From...), append(d.BGP[2].From, d.BGP[2].From...)
	})
	put("as", 1<<32-1, func(d *api.Device) { d.BGP[2].AS, d.BGP[2].ID, d.OSPF[2].ID = 1<<32-1, 1<<32-1, 1<<32-1 })
	put("peer", 1<<32-1, func(d *api.Device) {
		d.BGP[2].Peers = []api.Peer{{Addr: 1<<32 - 1, AS: 1<<32 - 1}, {Addr: 1, AS: 1<<32 - 1}}
	})
	put("instances", "none", func(d *api.Device) { d.OSPF, d.BGP = nil, nil })
}

// P12.1: the ends of what may be.
func TestCheckMay(t *testing.T) {
	list := mays()
	if len(list) < 90 {
		t.Error("only", len(list), "changes")
	}
	for name, change := range list {
		t.Run(name, func(t *testing.T) {
			d := device()
			change(&d)
			checks(t, d, "", api.OK)
		})
	}
}

// P12.1: what may not stand in a snapshot may still be a device.
func TestCheckAlone(t *testing.T) {
	d := device()
	d.Ifaces[1].Addr, d.Ifaces[3].Addr, d.Ifaces[3].Bits = d.Ifaces[0].Addr, d.Ifaces[0].Addr, 24
	d.OSPF[1].ID, d.BGP[1].ID = d.OSPF[0].ID, d.BGP[0].ID
	if what, e := model.Check(d); what != "" || e != api.OK {
		t.Error(what, e)
	}
}

// P12.1: as many things as there may be, of all parts and in all of them.
func TestCheckMost(t *testing.T) {
	d := device()
	d.VRFs = many(d.VRFs, api.MaxRules, numbered)
	d.Ifaces = many(d.Ifaces, api.MaxIfaces, ifaceNumbered)
	d.Filters = many(d.Filters, api.MaxRules, func(n int) api.Filter { return api.Filter{Name: numbered(n)} })
	d.Filters[2].Rules = rulesOf(api.MaxRules)
	d.Rewrites = slices.Repeat([]api.Rewrite{{To: 1}}, api.MaxRules)
	d.Statics = many(d.Statics, api.MaxRules, func(int) api.Static { return statics()[0] })
	d.Prefixes = many(d.Prefixes, api.MaxRules, func(n int) api.PrefixList { return api.PrefixList{Name: numbered(n)} })
	d.Prefixes[2].Entries = entriesOf(api.MaxRules)
	d.Communities = many(d.Communities, api.MaxRules, func(n int) api.CommunityList { return api.CommunityList{Name: numbered(n)} })
	d.Communities[2].Members = membersOf(api.MaxRules)
	d.Policies = many(d.Policies, api.MaxRules, func(n int) api.Policy { return api.Policy{Name: numbered(n)} })
	d.Policies[2].Clauses = clausesOf(api.MaxRules)
	d.OSPF[2].From = redistsOf(api.MaxRules, 1)
	d.BGP[2].From = redistsOf(api.MaxRules, 0)
	d.BGP[2].Nets, d.BGP[2].Peers = netsOf(api.MaxRules), peersOf(api.MaxRules)
	checks(t, d, "", api.OK)
	d.OSPF = many(nil, api.MaxRules, func(n int) api.OSPF { return api.OSPF{VRF: d.VRFs[n], ID: api.Addr(n + 1)} })
	d.BGP = many(nil, api.MaxRules, func(n int) api.BGP { return api.BGP{VRF: d.VRFs[n], AS: 1, ID: api.Addr(n + 1)} })
	checks(t, d, "", api.OK)
}

// R3: what stands behind the ends of lists is not looked at.
func TestCheckRoom(t *testing.T) {
	d := device()
	d.VRFs = append(d.VRFs, "1a")[:3]
	d.Ifaces = append(ifaces(), api.Iface{})[:4]
	d.Filters[2].Rules = append(rulesOf(2), rule(256))[:2]
	d.Statics = append(statics(), api.Static{})[:5]
	d.Prefixes[2].Entries = append(entries(), api.Entry{Le: 33})[:3]
	d.Policies[2].Clauses = append(clausesOf(2), api.Clause{})[:2]
	d.Policies[2].Clauses[1].Prepend = []uint32{1, 0}[:1]
	d.BGP[2].Nets = []api.Prefix{ten, ten}[:1]
	checks(t, d, "", api.OK)
	// What is named must not stand behind an end, either.
	d.VRFs = append(d.VRFs, "hid")[:3]
	d.Ifaces[2].VRF = "hid"
	checks(t, d, "iface 2", api.ErrRef)
}

// R2: a device may be, or may not, whatever was looked at before.
func TestCheckAgain(t *testing.T) {
	d := device()
	for range 3 {
		if what, e := model.Check(d); what != "" || e != api.OK {
			t.Error(what, e)
		}
		w := copied(d)
		w.Ifaces[1].Cost = 0
		if what, e := model.Check(w); what != "iface 1" || e != api.ErrModel {
			t.Error(what, e)
		}
	}
}
