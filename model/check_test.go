package model_test

import (
	"fmt"
	"math"
	"slices"
	"strings"
	"testing"

	"waymark/api"
	"waymark/model"
)

// order are the parts, as they are looked at.
var order = []string{"name", "kind", "vrf", "iface", "filter", "rewrite", "static", "prefixes", "communities", "policy", "ospf", "bgp"}

// wrong is what makes a device one that may not be: what of it, and what Check answers then. Two wrongs of one field can't stand together.
type wrong struct {
	part  string
	at    int
	field string
	e     api.Errno
	make  func(*api.Device)
}

// what is a wrong's word.
func (w wrong) what() string {
	if w.at < 0 {
		return w.part
	}
	return fmt.Sprint(w.part, " ", w.at)
}

// many are some more things, so that there are so many, each made by its number.
func many[T any](list []T, count int, thing func(n int) T) []T {
	list = slices.Clone(list)
	for len(list) < count {
		list = append(list, thing(len(list)))
	}
	return list
}

func numbered(n int) string { return fmt.Sprint("n", n) }

func ifaceNumbered(n int) api.Iface { return api.Iface{Name: numbered(n), Area: -1, Cost: 1} }

func rulesOf(n int) []api.Rule { return slices.Repeat([]api.Rule{rule(6)}, n) }

func entriesOf(n int) []api.Entry { return slices.Repeat(entries()[:1], n) }

func membersOf(n int) []api.Member { return slices.Repeat(members()[:1], n) }

func clausesOf(n int) []api.Clause {
	return many(nil, n, func(i int) api.Clause { return clause(i + 1) })
}

func netsOf(n int) []api.Prefix {
	return many(nil, n, func(i int) api.Prefix { return api.Prefix{Addr: api.Addr(i), Bits: 32} })
}

func peersOf(n int) []api.Peer {
	return many(nil, n, func(i int) api.Peer { return api.Peer{Addr: api.Addr(i + 1), AS: 1} })
}

func redistsOf(n int, kind uint8) []api.Redist {
	return slices.Repeat([]api.Redist{{From: api.FromStatic, Metric: -1, Type: kind}}, n)
}

// notNames are texts that are no names.
var notNames = []string{"", "1a", "-a", "a b", "a\x00", "ä", " a", "a\n", "aä", strings.Repeat("n", api.MaxName+1), strings.Repeat("n", 1<<20)}

// areNames are texts that are names, unlike those of the device.
var areNames = []string{"a", "Z", "z-_./9", strings.Repeat("n", api.MaxName)}

// wrongNames are the wrongs of a part's name at a place: what is no name, and one that stands ahead.
func wrongNames(part string, at int, ahead string, set func(*api.Device, string)) []wrong {
	var list []wrong
	for _, name := range append([]string{ahead}, notNames...) {
		list = append(list, wrong{part, at, "Name", api.ErrModel, func(d *api.Device) { set(d, name) }})
	}
	return list
}

// wrongNumbers are the wrongs of a field at a place that may not be these numbers.
func wrongNumbers[N any](part string, at int, field string, set func(*api.Device, N), numbers ...N) []wrong {
	var list []wrong
	for _, n := range numbers {
		list = append(list, wrong{part, at, field, api.ErrModel, func(d *api.Device) { set(d, n) }})
	}
	return list
}

// wrongRefs are the wrongs of a field at a place by names that stand for nothing: things of other parts have some of these.
func wrongRefs(part string, at int, field string, set func(*api.Device, string), others ...string) []wrong {
	var list []wrong
	for _, name := range append([]string{"none", "spar", "spare2", "Spare", "r1", "1a", " "}, others...) {
		list = append(list, wrong{part, at, field, api.ErrRef, func(d *api.Device) { set(d, name) }})
	}
	return list
}

// past are numbers that are past two ends.
func past(least, most int) []int {
	return []int{math.MinInt, least - 1, most + 1, math.MaxInt, 1<<32 + least}
}

func wrongHeads() []wrong {
	return slices.Concat(
		wrongNumbers("name", -1, "Name", func(d *api.Device, s string) { d.Name = s }, notNames...),
		wrongNumbers("kind", -1, "Kind", func(d *api.Device, n uint8) { d.Kind = n }, 0, 3, 4, 127, 255),
		wrongNames("vrf", 2, "blue", func(d *api.Device, s string) {
			d.VRFs[2] = s
			// What names it, in other parts, goes elsewhere, so that this alone is wrong.
			d.OSPF[2].VRF, d.BGP[2].VRF = "blue", ""
			d.BGP = append(d.BGP[:1:1], d.BGP[2])
		}),
		[]wrong{{"vrf", api.MaxRules, "", api.ErrModel, func(d *api.Device) { d.VRFs = many(d.VRFs, api.MaxRules+1, numbered) }}},
	)
}

func wrongIfaces() []wrong {
	address := func(d *api.Device, n [2]int) { d.Ifaces[3].Addr, d.Ifaces[3].Bits = api.Addr(n[0]), n[1] }
	return slices.Concat(
		wrongNames("iface", 3, "e1", func(d *api.Device, s string) { d.Ifaces[3].Name = s }),
		wrongNumbers("iface", 3, "Addr", address, [2]int{0, 1}, [2]int{0, 32}, [2]int{0, -1}, [2]int{5, 0}, [2]int{5, 33}, [2]int{5, -1}, [2]int{5, math.MinInt}, [2]int{5, 1<<32 + 8}, [2]int{0, 33}),
		wrongNumbers("iface", 3, "Side", func(d *api.Device, n uint8) { d.Ifaces[3].Side = n }, 3, 4, 255),
		wrongNumbers("iface", 3, "Area", func(d *api.Device, n int) { d.Ifaces[3].Area = n }, past(-1, 1<<24)...),
		wrongNumbers("iface", 3, "Cost", func(d *api.Device, n int) { d.Ifaces[3].Cost = n }, past(1, 65535)...),
		wrongRefs("iface", 3, "VRF", func(d *api.Device, s string) { d.Ifaces[3].VRF = s }, "web", "lan"),
		wrongRefs("iface", 3, "In", func(d *api.Device, s string) { d.Ifaces[3].In = s }, "red", "p1"),
		wrongRefs("iface", 3, "Out", func(d *api.Device, s string) { d.Ifaces[3].Out = s }, "red", "in"),
		[]wrong{{"iface", api.MaxIfaces, "", api.ErrModel, func(d *api.Device) { d.Ifaces = many(d.Ifaces, api.MaxIfaces+1, ifaceNumbered) }}},
	)
}

func wrongFilters() []wrong {
	rules := func(d *api.Device, l []api.Rule) { d.Filters[2].Rules = l }
	return slices.Concat(
		wrongNames("filter", 2, "all", func(d *api.Device, s string) { d.Filters[2].Name = s }),
		wrongNumbers("filter", 2, "Rules", rules, rulesOf(api.MaxRules+1), []api.Rule{rule(256)}, append(rulesOf(3), api.Rule{Src: api.Prefix{Addr: 1}}), []api.Rule{{SrcPorts: api.Span{Lo: 2, Hi: 1}}}, []api.Rule{{DstPorts: api.Span{Hi: 65536}}}),
		[]wrong{{"filter", api.MaxRules, "", api.ErrModel, func(d *api.Device) {
			d.Filters = many(d.Filters, api.MaxRules+1, func(n int) api.Filter { return api.Filter{Name: numbered(n)} })
		}}},
		wrongNumbers("rewrite", 2, "To", func(d *api.Device, a api.Addr) { d.Rewrites[2].To = a }, 0),
		wrongRefs("rewrite", 2, "Filter", func(d *api.Device, s string) { d.Rewrites[2].Filter = s }, "red", "p1"),
		[]wrong{{"rewrite", api.MaxRules, "", api.ErrModel, func(d *api.Device) {
			d.Rewrites = many(d.Rewrites, api.MaxRules+1, func(n int) api.Rewrite { return api.Rewrite{To: 1} })
		}}},
	)
}

func wrongStatics() []wrong {
	to := func(d *api.Device, s api.Static) { d.Statics[4].Via, d.Statics[4].Discard = s.Via, s.Discard }
	return slices.Concat(
		wrongNumbers("static", 4, "Prefix", func(d *api.Device, p api.Prefix) { d.Statics[4].Prefix = p }, notPrefixes...),
		wrongNumbers("static", 4, "Via", to, api.Static{}, api.Static{Via: 1, Discard: true}),
		wrongNumbers("static", 4, "Dist", func(d *api.Device, n int) { d.Statics[4].Dist = n }, past(1, 255)...),
		wrongNumbers("static", 4, "Tag", func(d *api.Device, n int) { d.Statics[4].Tag = n }, past(0, 1<<24)[:4]...),
		wrongRefs("static", 4, "VRF", func(d *api.Device, s string) { d.Statics[4].VRF = s }, "web"),
		[]wrong{{"static", api.MaxRules, "", api.ErrModel, func(d *api.Device) {
			d.Statics = many(d.Statics, api.MaxRules+1, func(int) api.Static { return statics()[0] })
		}}},
	)
}

// notPrefixes are prefixes that may not be.
var notPrefixes = []api.Prefix{{Addr: 0x0A000001, Bits: 8}, {Bits: 33}, {Bits: -1}, {Addr: 1}, {Bits: math.MaxInt}, {Bits: 1 << 32}}

func wrongLists() []wrong {
	list := func(d *api.Device, l []api.Entry) { d.Prefixes[2].Entries = l }
	entry := func(d *api.Device, e api.Entry) { list(d, append(entries(), e)) }
	comm := func(d *api.Device, l []api.Member) { d.Communities[2].Members = l }
	return slices.Concat(
		wrongNames("prefixes", 2, "p1", func(d *api.Device, s string) { d.Prefixes[2].Name = s }),
		wrongNumbers("prefixes", 2, "Entries", entry,
			api.Entry{Prefix: ten, Ge: 7, Le: 32}, api.Entry{Prefix: ten, Ge: 9, Le: 8}, api.Entry{Prefix: ten, Ge: 8, Le: 33}, api.Entry{Prefix: ten, Ge: 33, Le: 33}, api.Entry{Prefix: ten}, api.Entry{Ge: -1},
			api.Entry{Le: math.MaxInt}, api.Entry{Ge: math.MinInt}, api.Entry{Ge: 1}, api.Entry{Le: -1}, api.Entry{Prefix: notPrefixes[0], Ge: 8, Le: 8}, api.Entry{Prefix: notPrefixes[1], Ge: 33, Le: 33}, api.Entry{Prefix: notPrefixes[2]}),
		wrongNumbers("prefixes", 2, "Entries", list, entriesOf(api.MaxRules+1)),
		[]wrong{{"prefixes", api.MaxRules, "", api.ErrModel, func(d *api.Device) {
			d.Prefixes = many(d.Prefixes, api.MaxRules+1, func(n int) api.PrefixList { return api.PrefixList{Name: numbered(n)} })
		}}},
		wrongNames("communities", 2, "c1", func(d *api.Device, s string) { d.Communities[2].Name = s }),
		wrongNumbers("communities", 2, "Members", comm, membersOf(api.MaxRules+1), append(members(), api.Member{All: make([]uint32, api.MaxPath+1)})),
		[]wrong{{"communities", api.MaxRules, "", api.ErrModel, func(d *api.Device) {
			d.Communities = many(d.Communities, api.MaxRules+1, func(n int) api.CommunityList { return api.CommunityList{Name: numbered(n)} })
		}}},
	)
}

func wrongPolicies() []wrong {
	// One that is no number with which a list ends.
	number := func(field string, set func(c *api.Clause, n int)) []wrong {
		return wrongNumbers("policy", 2, field, func(d *api.Device, n int) { set(&d.Policies[2].Clauses[1], n) }, past(-1, 1<<24)...)
	}
	at := func(d *api.Device) *api.Clause { return &d.Policies[2].Clauses[1] }
	seqs := func(d *api.Device, n [2]int) {
		d.Policies[2].Clauses[0].Seq, d.Policies[2].Clauses[1].Seq = n[0], n[1]
	}
	return slices.Concat(
		wrongNames("policy", 2, "in", func(d *api.Device, s string) { d.Policies[2].Name = s }),
		wrongNumbers("policy", 2, "Seq", seqs, [2]int{0, 1}, [2]int{-1, 1}, [2]int{10, 10}, [2]int{10, 9}, [2]int{10, 65536}, [2]int{65536, 65537}, [2]int{5, 0}, [2]int{5, -6}, [2]int{math.MinInt, 5}, [2]int{5, math.MaxInt}),
		wrongNumbers("policy", 2, "Clauses", func(d *api.Device, n int) { d.Policies[2].Clauses = append(clausesOf(n), clause(65535)) }, api.MaxRules, 2*api.MaxRules),
		wrongNumbers("policy", 2, "Action", func(d *api.Device, n uint8) { at(d).Action = n }, 3, 4, 255),
		number("Tag", func(c *api.Clause, n int) { c.Tag = n }),
		number("Metric", func(c *api.Clause, n int) { c.Metric = n }),
		number("SetMetric", func(c *api.Clause, n int) { c.SetMetric = n }),
		number("SetPref", func(c *api.Clause, n int) { c.SetPref = n }),
		number("SetTag", func(c *api.Clause, n int) { c.SetTag = n }),
		wrongNumbers("policy", 2, "Through", func(d *api.Device, n int) { at(d).Through = n }, math.MinInt, -2, 0, 1<<32, math.MaxInt),
		wrongNumbers("policy", 2, "SetComm", func(d *api.Device, l []uint32) { at(d).SetComm = l }, make([]uint32, api.MaxPath+1)),
		wrongNumbers("policy", 2, "SetComm", func(d *api.Device, l []uint32) { at(d).SetComm, at(d).Add = l, true }, nil, []uint32{}),
		wrongNumbers("policy", 2, "Prepend", func(d *api.Device, l []uint32) { at(d).Prepend = l }, []uint32{0}, []uint32{1, 0}, slices.Repeat([]uint32{1}, api.MaxPath+1)),
		wrongNumbers("policy", 2, "Jump", func(d *api.Device, n int) { at(d).Jump = n }, 20, 19, 1, -1, 65536, math.MinInt, math.MaxInt, 1<<32+30),
		wrongRefs("policy", 2, "Prefixes", func(d *api.Device, s string) { at(d).Prefixes = s }, "c1", "in"),
		wrongRefs("policy", 2, "Communities", func(d *api.Device, s string) { at(d).Communities = s }, "p1", "in"),
		// The reference stands ahead of what else is wrong in the same policy.
		wrongRefs("policy", 2, "Ahead", func(d *api.Device, s string) { d.Policies[2].Clauses[0].Prefixes = s }),
		[]wrong{{"policy", api.MaxRules, "", api.ErrModel, func(d *api.Device) {
			d.Policies = many(d.Policies, api.MaxRules+1, func(n int) api.Policy { return api.Policy{Name: numbered(n)} })
		}}},
	)
}

// wrongRedists are those of an instance's Redists, which are taken over from one side more, and of these types.
func wrongRedists(part string, also uint8, at func(*api.Device) *[]api.Redist, types ...uint8) []wrong {
	first := func(d *api.Device) *api.Redist { return &(*at(d))[0] }
	sides := []uint8{0}
	for n := 1; n < 256; n++ {
		if n >= 16 || uint8(n)&^(api.FromConnected|api.FromStatic|also) != 0 {
			sides = append(sides, uint8(n))
		}
	}
	return slices.Concat(
		wrongNumbers(part, 2, "From", func(d *api.Device, n uint8) { first(d).From = n }, sides...),
		wrongNumbers(part, 2, "Metric", func(d *api.Device, n int) { first(d).Metric = n }, past(-1, 1<<24)...),
		wrongNumbers(part, 2, "Type", func(d *api.Device, n uint8) { first(d).Type = n }, types...),
		wrongNumbers(part, 2, "Redists", func(d *api.Device, n int) { *at(d) = slices.Repeat(*at(d), n) }, api.MaxRules+1),
		wrongRefs(part, 2, "Policy", func(d *api.Device, s string) { first(d).Policy = s }, "p1", "web", "red"),
	)
}

func wrongOSPF() []wrong {
	return slices.Concat(
		wrongNumbers("ospf", 2, "ID", func(d *api.Device, a api.Addr) { d.OSPF[2].ID = a }, 0),
		wrongNumbers("ospf", 2, "VRF", func(d *api.Device, s string) { d.OSPF[2].VRF = s }, "red", ""),
		wrongRefs("ospf", 2, "VRF", func(d *api.Device, s string) { d.OSPF[2].VRF = s }, "in", "web"),
		wrongRedists("ospf", api.FromBGP, func(d *api.Device) *[]api.Redist { return &d.OSPF[2].From }, 0, 3, 4, 255),
		[]wrong{{"ospf", api.MaxRules, "", api.ErrModel, func(d *api.Device) {
			d.OSPF = many(d.OSPF, api.MaxRules+1, func(n int) api.OSPF { return api.OSPF{VRF: "blue", ID: api.Addr(n + 9)} })
		}}},
	)
}

func wrongBGP() []wrong {
	nets := func(d *api.Device, l []api.Prefix) { d.BGP[2].Nets = l }
	peer := func(d *api.Device, p api.Peer) { d.BGP[2].Peers = append([]api.Peer{{Addr: 5, AS: 1}}, p) }
	list := slices.Concat(
		wrongNumbers("bgp", 2, "AS", func(d *api.Device, n uint32) { d.BGP[2].AS = n }, 0),
		wrongNumbers("bgp", 2, "ID", func(d *api.Device, a api.Addr) { d.BGP[2].ID = a }, 0),
		wrongNumbers("bgp", 2, "VRF", func(d *api.Device, s string) { d.BGP[2].VRF = s }, "blue", ""),
		wrongRefs("bgp", 2, "VRF", func(d *api.Device, s string) { d.BGP[2].VRF = s }, "in", "web"),
		wrongNumbers("bgp", 2, "Nets", nets, []api.Prefix{ten, {}, ten}, netsOf(api.MaxRules+1)),
		wrongNumbers("bgp", 2, "Peers", peer, api.Peer{AS: 1}, api.Peer{Addr: 6}, api.Peer{Addr: 5, AS: 2}, api.Peer{Addr: 5, AS: 1, In: "none"}),
		wrongNumbers("bgp", 2, "Peers", func(d *api.Device, l []api.Peer) { d.BGP[2].Peers = l }, peersOf(api.MaxRules+1)),
		wrongRefs("bgp", 2, "Peers", func(d *api.Device, s string) { d.BGP[2].Peers[0].In = s }, "p1", "web"),
		wrongRefs("bgp", 2, "Out", func(d *api.Device, s string) { d.BGP[2].Peers[0].Out = s }, "c1", "red"),
		wrongRedists("bgp", api.FromOSPF, func(d *api.Device) *[]api.Redist { return &d.BGP[2].From }, 1, 2, 3, 255),
		[]wrong{{"bgp", api.MaxRules, "", api.ErrModel, func(d *api.Device) {
			d.BGP = many(d.BGP, api.MaxRules+1, func(n int) api.BGP { return api.BGP{VRF: "red", AS: 1, ID: api.Addr(n + 9)} })
		}}},
	)
	for _, p := range notPrefixes {
		list = append(list, wrongNumbers("bgp", 2, "Nets", nets, []api.Prefix{ten, p})...)
	}
	return list
}

// wrongs are ways to make a device one that may not be, in the order of the parts.
func wrongs() []wrong {
	return slices.Concat(wrongHeads(), wrongIfaces(), wrongFilters(), wrongStatics(), wrongLists(), wrongPolicies(), wrongOSPF(), wrongBGP())
}

// checks looks what Check answers, and whether Snapshot answers as it (P12.2), and that the form may be just if the device may (P12.3).
func checks(t *testing.T, d api.Device, what string, e api.Errno) {
	t.Helper()
	if w, got := model.Check(d); w != what || got != e {
		t.Errorf("%q %v, not %q %v", w, got, what, e)
	}
	if _, got := model.Check(model.Form(d)); (got == api.OK) != (e == api.OK) {
		t.Errorf("the form of %q %v: %v", what, e, got)
	}
	if l, at, got := model.Snapshot([]api.Device{d}); got != e || at != 0 || (len(l) == 1) != (e == api.OK) {
		t.Errorf("the snapshot of %q %v: %d %v", what, e, at, got)
	}
}

// P12.1: the chapter's examples.
func TestCheckKnown(t *testing.T) {
	e0 := func(cost int) []api.Iface { return []api.Iface{{Name: "e0", VRF: "red", Area: -1, Cost: cost}} }
	checks(t, api.Device{Name: "a", Kind: api.Flat, Ifaces: e0(10)}, "iface 0", api.ErrRef)
	checks(t, api.Device{Name: "a", Kind: api.Flat, Ifaces: e0(0)}, "iface 0", api.ErrModel)
	checks(t, api.Device{Name: "a", Kind: api.Flat, Ifaces: e0(10), VRFs: []string{"red"}}, "", api.OK)
	checks(t, api.Device{Name: "1a", Kind: api.Flat}, "name", api.ErrModel)
	checks(t, api.Device{Name: "a", Kind: 3}, "kind", api.ErrModel)
	checks(t, api.Device{}, "name", api.ErrModel)
	checks(t, api.Device{Name: "a", Kind: api.Flat}, "", api.OK)
	checks(t, device(), "", api.OK)
}

// P12.1: what alone makes a device one that may not be.
func TestCheckWrong(t *testing.T) {
	for i, w := range wrongs() {
		d := device()
		w.make(&d)
		t.Run(fmt.Sprint(i, w.what(), w.field), func(t *testing.T) { checks(t, d, w.what(), w.e) })
	}
}

// few are the wrongs, two of each field at most: the first one and the last one.
func few() []wrong {
	var list []wrong
	all := wrongs()
	like := func(w, x wrong) bool { return w.part == x.part && w.at == x.at && w.field == x.field && w.e == x.e }
	for i, w := range all {
		if i == 0 || i+1 == len(all) || !like(w, all[i-1]) || !like(w, all[i+1]) {
			list = append(list, w)
		}
	}
	return list
}

// ahead tells whether a wrong is told though there is another one, and which error then is: the first part, in it too many things, of one thing ErrModel.
func ahead(a, b wrong) (bool, api.Errno) {
	rank := func(w wrong) int {
		at := w.at
		if w.field == "" {
			at = -1
		}
		return slices.Index(order, w.part)*1000 + at
	}
	switch {
	case rank(a) < rank(b):
		return true, a.e
	case rank(a) > rank(b):
		return false, b.e
	case a.e == api.ErrModel:
		return true, a.e
	}
	return true, b.e
}

// P12.1, R5: two things that are wrong at once: the first part, of it too many things, else the first thing; of one thing a name that stands for nothing behind all else.
func TestCheckOrder(t *testing.T) {
	list := few()
	model2, both := 0, 0
	for _, a := range list {
		for _, b := range list {
			if a.part == b.part && (a.field == b.field || a.field == "Clauses" || b.field == "Clauses" || a.field == "Entries" || a.field == "Redists" || b.field == "Redists") || a.part == "vrf" || b.part == "vrf" {
				continue
			}
			d := device()
			a.make(&d)
			b.make(&d)
			first, e := ahead(a, b)
			w := a
			if !first {
				w = b
			}
			if what, got := model.Check(d); what != w.what() || got != e {
				t.Fatalf("%s %s and %s %s: %q %v, not %q %v", a.what(), a.field, b.what(), b.field, what, got, w.what(), e)
			}
			both++
			if a.e != b.e && a.part == b.part && a.at == b.at {
				model2++
			}
		}
	}
	if both < 3000 || model2 < 100 {
		t.Error(both, model2)
	}
}

// P12.1: wrong VRFs stand behind the name and the kind, and ahead of all else.
func TestCheckVRFs(t *testing.T) {
	for _, w := range few() {
		for _, v := range []struct {
			at   int
			list []string
		}{{0, []string{"1a", "red", "blue", "spare"}}, {3, []string{"red", "blue", "spare", "red"}}, {api.MaxRules, many([]string{"1a", "red", "blue", "spare"}, api.MaxRules+1, numbered)}} {
			d := device()
			if w.make(&d); w.part == "vrf" {
				continue
			}
			d.VRFs = v.list
			want := fmt.Sprint("vrf ", v.at)
			if w.part == "name" || w.part == "kind" {
				want = w.part
			}
			if what, e := model.Check(d); what != want || e != api.ErrModel {
				t.Errorf("%v %s: %q %v, not %q", v.at, w.part, what, e, want)
			}
		}
	}
}

// P12.1: of several things of a part the first one that fails, whatever stands behind it.
func TestCheckFirst(t *testing.T) {
	for n := range 4 {
		d := device()
		for i := n; i < 4; i++ {
			d.Ifaces[i].Cost = 0
		}
		checks(t, d, fmt.Sprint("iface ", n), api.ErrModel)
		d.Ifaces[n].Cost = 1
		d.Ifaces[n].VRF = "none"
		checks(t, d, fmt.Sprint("iface ", n), api.ErrRef)
	}
	for n := range 5 {
		d := device()
		for i := n; i < 5; i++ {
			d.Statics[i].Dist = 0
		}
		checks(t, d, fmt.Sprint("static ", n), api.ErrModel)
	}
	// Of three of one name the second one is the first that stands twice.
	checks(t, api.Device{Name: "a", Kind: api.Flat, VRFs: []string{"v", "w", "v", "v"}}, "vrf 2", api.ErrModel)
}
