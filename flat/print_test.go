package flat_test

import (
	"fmt"
	"math"
	"math/rand"
	"slices"
	"strings"
	"testing"

	"waymark/api"
	"waymark/flat"
	"waymark/model"
)

// printed looks whether Print writes a text that says a device, by Parse and by the tests' own reckoning.
func printed(t *testing.T, d api.Device) string {
	t.Helper()
	s, e := flat.Print(d)
	if e != api.OK {
		t.Fatalf("Print(%+v): %v", d, e)
	}
	if again, pos, e := flat.Parse(s); e != api.OK || !alike(again, d) {
		t.Fatalf("Parse(%q): %+v %v %v, not %+v", s, again, pos, e, d)
	}
	if again, pos, e := plain(s); e != api.OK || !alike(again, d) {
		t.Fatalf("%q says %+v %v %v, not %+v", s, again, pos, e, d)
	}
	return s
}

// full is a device with each statement in it, which may be.
func full() api.Device {
	d, _, _ := flat.Parse(whole)
	return d
}

// P13.2, P13.3: known devices; what need not be said is not.
func TestPrintKnown(t *testing.T) {
	if s := printed(t, api.Device{Name: "a", Kind: api.Flat}); s != "hostname a\n" {
		t.Errorf("%q", s)
	}
	if s := printed(t, withIface(func(*api.Iface) {})); s != "hostname a\ninterface e0\n" {
		t.Errorf("%q", s)
	}
	printed(t, full())
	// A device that may be, but whose things stand in another order than the language's.
	d := full()
	slices.Reverse(d.VRFs)
	slices.Reverse(d.Ifaces)
	slices.Reverse(d.Filters)
	slices.Reverse(d.OSPF)
	printed(t, d)
}

// some is a list of up to so many things.
func some[T any](r *rand.Rand, most int, thing func(i int) T) []T {
	var l []T
	for i := range r.Intn(most + 1) {
		l = append(l, thing(i))
	}
	return l
}

// of is a number: an end, or some number between.
func of(r *rand.Rand, least, most int) int {
	switch r.Intn(4) {
	case 0:
		return least
	case 1:
		return most
	case 2:
		return min(most, least+r.Intn(12))
	}
	return least + r.Intn(most-least+1)
}

func anyPrefix(r *rand.Rand) api.Prefix {
	bits := of(r, 0, 32)
	return api.Prefix{Addr: api.Addr(r.Uint64()>>32<<(32-bits)) & math.MaxUint32, Bits: bits}
}

func anyAddr(r *rand.Rand) api.Addr { return api.Addr(of(r, 1, math.MaxUint32)) }

func anyPorts(r *rand.Rand) api.Span {
	lo := of(r, 0, 65535)
	return api.Span{Lo: uint32(lo), Hi: uint32(of(r, lo, 65535))}
}

func anyRule(r *rand.Rand) api.Rule {
	x := api.Rule{Permit: r.Intn(2) == 0, Proto: of(r, -1, 255), Src: anyPrefix(r), Dst: anyPrefix(r), SrcPorts: api.Span{Hi: 65535}, DstPorts: api.Span{Hi: 65535}}
	if r.Intn(2) == 0 {
		x.Proto = []int{6, 17}[r.Intn(2)]
		x.SrcPorts, x.DstPorts = anyPorts(r), anyPorts(r)
	}
	return x
}

// named tells of a list's things some name, or none.
func oneOf[T any](r *rand.Rand, l []T, name func(T) string) string {
	if n := r.Intn(len(l) + 1); n > 0 {
		return name(l[n-1])
	}
	return ""
}

func numbers32(r *rand.Rand, least, most int) []uint32 {
	l := make([]uint32, least+r.Intn(most-least+1))
	for i := range l {
		l[i] = uint32(of(r, 1, math.MaxUint32))
	}
	return l
}

func nameOf(kind string) func(i int) string {
	return func(i int) string { return fmt.Sprint(kind, i*7%10) }
}

// anyDevice is one that can be written.
func anyDevice(r *rand.Rand) api.Device {
	d := api.Device{Name: pick(r, "a", "r-1/2.x_", strings.Repeat("h", 32)), Kind: api.Flat}
	d.VRFs = some(r, 3, nameOf("v"))
	d.Filters = some(r, 3, func(i int) api.Filter {
		return api.Filter{Name: nameOf("f")(i), Rules: some(r, 4, func(int) api.Rule { return anyRule(r) })}
	})
	d.Prefixes = some(r, 3, func(i int) api.PrefixList {
		return api.PrefixList{Name: nameOf("p")(i), Entries: append(some(r, 3, func(int) api.Entry { return anyEntry(r) }), anyEntry(r))}
	})
	d.Communities = some(r, 3, func(i int) api.CommunityList {
		member := func(int) api.Member { return api.Member{Permit: r.Intn(2) == 0, All: numbers32(r, 1, 4)} }
		return api.CommunityList{Name: nameOf("c")(i), Members: append(some(r, 3, member), member(0))}
	})
	vrf := func() string { return oneOf(r, d.VRFs, func(s string) string { return s }) }
	filter := func() string { return oneOf(r, d.Filters, func(f api.Filter) string { return f.Name }) }
	d.Ifaces = some(r, 4, func(i int) api.Iface {
		x := api.Iface{Name: nameOf("e")(i), VRF: vrf(), Down: r.Intn(2) == 0, In: filter(), Out: filter(), Side: uint8(r.Intn(3)), Area: of(r, -1, top), Cost: of(r, 1, 65535), Passive: r.Intn(2) == 0}
		if r.Intn(3) > 0 {
			x.Addr, x.Bits = anyAddr(r), of(r, 1, 32)
		}
		return x
	})
	if len(d.Filters) > 0 {
		d.Rewrites = some(r, 3, func(int) api.Rewrite {
			return api.Rewrite{Dest: r.Intn(2) == 0, Filter: d.Filters[r.Intn(len(d.Filters))].Name, To: anyAddr(r)}
		})
	}
	d.Statics = some(r, 4, func(int) api.Static {
		x := api.Static{VRF: vrf(), Prefix: anyPrefix(r), Discard: r.Intn(2) == 0, Dist: of(r, 1, 255), Tag: of(r, 0, top)}
		if !x.Discard {
			x.Via = anyAddr(r)
		}
		return x
	})
	routing(r, &d)
	return d
}

func anyEntry(r *rand.Rand) api.Entry {
	x := api.Entry{Permit: r.Intn(2) == 0, Prefix: anyPrefix(r)}
	x.Ge = of(r, x.Prefix.Bits, 32)
	x.Le = of(r, x.Ge, 32)
	return x
}

// routing gives a device policies and instances.
func routing(r *rand.Rand, d *api.Device) {
	d.Policies = some(r, 3, func(i int) api.Policy {
		p := api.Policy{Name: nameOf("m")(i)}
		for seq := of(r, 1, 65535); seq <= 65535 && len(p.Clauses) < 4; seq += of(r, 1, 30000) {
			p.Clauses = append(p.Clauses, anyClause(r, d, seq))
		}
		return p
	})
	policy := func() string { return oneOf(r, d.Policies, func(p api.Policy) string { return p.Name }) }
	for i, v := range append([]string{""}, d.VRFs...) {
		redists := func(other, kinds uint8) []api.Redist {
			return some(r, 3, func(int) api.Redist {
				return api.Redist{From: []uint8{api.FromConnected, api.FromStatic, other}[r.Intn(3)], Metric: of(r, -1, top), Type: kinds * uint8(1+r.Intn(2)), Policy: policy()}
			})
		}
		if r.Intn(3) > 0 {
			d.OSPF = append(d.OSPF, api.OSPF{VRF: v, ID: anyAddr(r), From: redists(api.FromBGP, 1)})
		}
		if r.Intn(3) == 0 {
			continue
		}
		b := api.BGP{VRF: v, AS: uint32(of(r, 1, math.MaxUint32)), ID: anyAddr(r), From: redists(api.FromOSPF, 0)}
		b.Nets = some(r, 3, func(k int) api.Prefix { return api.Prefix{Addr: api.Addr(k) << 24, Bits: of(r, 8, 32)} })
		b.Peers = some(r, 3, func(k int) api.Peer {
			return api.Peer{Addr: api.Addr(i + k*5%7 + 1), AS: uint32(of(r, 1, math.MaxUint32)), In: policy(), Out: policy(), Client: r.Intn(2) == 0, Self: r.Intn(2) == 0}
		})
		d.BGP = slices.Insert(d.BGP, r.Intn(len(d.BGP)+1), b)
	}
}

func anyClause(r *rand.Rand, d *api.Device, seq int) api.Clause {
	c := api.Clause{Seq: seq, Action: uint8(r.Intn(3)), Tag: of(r, -1, top), Metric: of(r, -1, top), Through: of(r, 1, math.MaxUint32), SetMetric: of(r, -1, top), SetPref: of(r, -1, top), SetTag: of(r, -1, top)}
	c.Prefixes = oneOf(r, d.Prefixes, func(l api.PrefixList) string { return l.Name })
	c.Communities = oneOf(r, d.Communities, func(l api.CommunityList) string { return l.Name })
	if r.Intn(2) == 0 {
		c.Through = -1
	}
	c.SetComm, c.Prepend = numbers32(r, 0, 3), numbers32(r, 0, 3)
	c.Add = len(c.SetComm) > 0 && r.Intn(2) == 0
	if r.Intn(2) == 0 {
		c.SetHop = anyAddr(r)
	}
	if seq < 65535 && r.Intn(2) == 0 {
		c.Jump = of(r, seq+1, 65535)
	}
	return c
}

// P13.2, P13.3: any devices that can be written are, and are read as they were; they are not changed.
func TestPrintAny(t *testing.T) {
	r := rand.New(rand.NewSource(3))
	for range 1500 {
		d := anyDevice(r)
		if what, e := model.Check(d); e != api.OK {
			t.Fatal("the test's device may not be:", what, e, d)
		}
		was := model.Twin(d)
		printed(t, d)
		if !alike(d, was) {
			t.Fatal("changed", d, was)
		}
	}
}

// P13.3: a text that is read, and whose device can be written, says what is written of it.
func TestPrintWhatIsRead(t *testing.T) {
	r := rand.New(rand.NewSource(33))
	written := 0
	// What any text of the tests may name.
	ahead := "hostname h\n"
	for _, n := range []string{"a", "b", "c", "vrf", "discard", "in", "ge-0/0", strings.Repeat("n", 32)} {
		ahead += "vrf " + n + "\nip filter " + n + "\nip prefix-list " + n + " permit 10.0.0.0/8\nip community-list " + n + " permit 1:1\nroute-map " + n + " permit 65535\n"
	}
	for range 800 {
		s := ahead
		for range r.Intn(20) {
			block := pick(r, "interface a", "interface b", "route-map a permit 20", "route-map d next 10", "router ospf\n router-id 1.1.1.1", "router ospf vrf a\n router-id 1.1.1.1", "router bgp 9 vrf b\n router-id 1.1.1.1\n neighbor 10.0.0.1 as 5", "ip filter d", "")
			more := block + "\n"
			for range r.Intn(5) {
				if block == "" {
					more += anyLine(r, "") + "\n"
				} else {
					more += " " + anyLine(r, blockOf(block)) + "\n"
				}
			}
			if d, _, e := plain(s + more); e == api.OK && canBeWritten(d) {
				s += more
			}
		}
		d, _, e := flat.Parse(s)
		if e != api.OK || !canBeWritten(d) {
			continue
		}
		written++
		if again := printed(t, d); len(again) > len(s) {
			t.Fatalf("%q\nis longer than\n%q", again, s)
		}
	}
	if written < 600 {
		t.Error("written:", written)
	}
}

// canBeWritten tells whether a device can be written, if it is not too much for a text.
func canBeWritten(d api.Device) bool {
	_, e := model.Check(d)
	can := e == api.OK && d.Kind == api.Flat
	for _, p := range d.Policies {
		can = can && !p.Default && len(p.Clauses) > 0
	}
	for _, l := range d.Prefixes {
		can = can && len(l.Entries) > 0
	}
	for _, l := range d.Communities {
		can = can && len(l.Members) > 0
		for _, m := range l.Members {
			can = can && len(m.All) > 0
		}
	}
	for _, r := range d.Rewrites {
		can = can && r.Filter != ""
	}
	for _, f := range d.Filters {
		for _, r := range f.Rules {
			all := api.Span{Lo: 0, Hi: 65535}
			can = can && (r.SrcPorts == all && r.DstPorts == all || r.Proto == 6 || r.Proto == 17)
		}
	}
	var from []api.Redist
	for _, o := range d.OSPF {
		from = append(from, o.From...)
	}
	for _, b := range d.BGP {
		from = append(from, b.From...)
	}
	for _, x := range from {
		can = can && slices.Contains([]uint8{1, 2, 4, 8}, x.From)
	}
	return can
}

// P13.2: devices that can't be written, by each of the chapter's conditions.
func TestNotWritten(t *testing.T) {
	for name, change := range map[string]func(d *api.Device){
		"nothing":                  func(d *api.Device) { *d = api.Device{} },
		"no name":                  func(d *api.Device) { d.Name = "" },
		"a name that is none":      func(d *api.Device) { d.Name = "a b" },
		"a name of two lines":      func(d *api.Device) { d.Name = "a\nvrf x" },
		"nested":                   func(d *api.Device) { d.Kind = api.Nested },
		"no kind":                  func(d *api.Device) { d.Kind = 0 },
		"a VRF that is not there":  func(d *api.Device) { d.Ifaces[0].VRF = "x" },
		"a filter not there":       func(d *api.Device) { d.Ifaces[0].In = "x" },
		"a policy not there":       func(d *api.Device) { d.BGP[0].Peers[0].In = "x" },
		"a VRF twice":              func(d *api.Device) { d.VRFs = append(d.VRFs, d.VRFs[0]) },
		"a cost":                   func(d *api.Device) { d.Ifaces[0].Cost = 0 },
		"an area":                  func(d *api.Device) { d.Ifaces[0].Area = top + 1 },
		"a policy that permits":    func(d *api.Device) { d.Policies[0].Default = true },
		"a policy of no clauses":   func(d *api.Device) { d.Policies = append(d.Policies, api.Policy{Name: "none"}) },
		"a list of no entries":     func(d *api.Device) { d.Prefixes = append(d.Prefixes, api.PrefixList{Name: "none"}) },
		"a list of no members":     func(d *api.Device) { d.Communities = append(d.Communities, api.CommunityList{Name: "none"}) },
		"a member of none":         func(d *api.Device) { d.Communities[0].Members[1].All = nil },
		"the first member of none": func(d *api.Device) { d.Communities[0].Members[0].All = []uint32{} },
		"a rewrite of all":         func(d *api.Device) { d.Rewrites[1].Filter = "" },
		"the first rewrite of all": func(d *api.Device) { d.Rewrites[0].Filter = "" },
		"ports of any protocol":    func(d *api.Device) { d.Filters[1].Rules[0].SrcPorts.Lo = 1 },
		"ports to of any protocol": func(d *api.Device) { d.Filters[1].Rules[0].DstPorts.Hi = 65534 },
		"ports of protocol 0":      func(d *api.Device) { d.Filters[1].Rules[3].DstPorts = api.Span{} },
		"ports of icmp": func(d *api.Device) {
			d.Filters[1].Rules[3].Proto, d.Filters[1].Rules[3].SrcPorts = 1, api.Span{Lo: 5, Hi: 5}
		},
		"two sides in OSPF": func(d *api.Device) { d.OSPF[0].From[1].From = api.FromConnected | api.FromBGP },
		"two sides in BGP":  func(d *api.Device) { d.BGP[0].From[0].From = api.FromStatic | api.FromOSPF },
		"three sides":       func(d *api.Device) { d.BGP[0].From[0].From = 7 },
		"no side":           func(d *api.Device) { d.BGP[0].From[0].From = 0 },
		"its own side":      func(d *api.Device) { d.BGP[0].From[0].From = api.FromBGP },
	} {
		d := model.Twin(full())
		change(&d)
		if canBeWritten(d) {
			t.Error(name, "can be written")
		}
		if s, e := flat.Print(d); e != api.ErrModel || s != "" {
			t.Errorf("%s: %q %v", name, s, e)
		}
	}
	d := full()
	d.Rewrites, d.Ifaces, d.Filters = nil, nil, []api.Filter{{Name: "none"}}
	printed(t, d)
}

// P13.2: any changes of a device that can be written: it is written just if it still can be.
func TestPrintChanged(t *testing.T) {
	r := rand.New(rand.NewSource(31))
	written := 0
	for range 3000 {
		d := anyDevice(r)
		spoil(r, &d)
		s, e := flat.Print(d)
		switch {
		case canBeWritten(d):
			written++
			printed(t, d)
		case e != api.ErrModel || s != "":
			t.Fatalf("Print(%+v): %q %v", d, s, e)
		}
	}
	if written < 500 || written > 2500 {
		t.Error("written:", written)
	}
}

// spoil changes something of a device, so that it may be that it can't be written any more.
func spoil(r *rand.Rand, d *api.Device) {
	at := func(n int) int { return r.Intn(max(1, n)) }
	switch n := r.Intn(12); {
	case n == 0:
		d.Kind = uint8(r.Intn(4))
	case n == 1 && len(d.Policies) > 0:
		p := &d.Policies[at(len(d.Policies))]
		p.Default = r.Intn(2) == 0
		p.Clauses = p.Clauses[:r.Intn(len(p.Clauses)+1)]
	case n == 2 && len(d.Prefixes) > 0:
		l := &d.Prefixes[at(len(d.Prefixes))]
		l.Entries = l.Entries[:r.Intn(len(l.Entries)+1)]
	case n == 3 && len(d.Communities) > 0:
		l := &d.Communities[at(len(d.Communities))]
		l.Members = l.Members[:r.Intn(len(l.Members)+1)]
	case n == 4 && len(d.Communities) > 0:
		m := &d.Communities[at(len(d.Communities))].Members[0]
		m.All = m.All[:r.Intn(len(m.All)+1)]
	case n == 5 && len(d.Rewrites) > 0:
		d.Rewrites[at(len(d.Rewrites))].Filter = pick(r, "", "f0", "f1")
	case n <= 7 && len(d.Filters) > 0 && len(d.Filters[0].Rules) > 0:
		x := &d.Filters[0].Rules[at(len(d.Filters[0].Rules))]
		x.Proto = []int{6, 17, 1, 0, -1, 16, 18, 256}[r.Intn(8)]
		x.DstPorts.Lo = uint32(r.Intn(2))
	case n <= 9 && len(d.OSPF) > 0 && len(d.OSPF[0].From) > 0:
		d.OSPF[0].From[0].From = uint8(r.Intn(16))
	case len(d.BGP) > 0 && len(d.BGP[0].From) > 0:
		d.BGP[0].From[0].From = uint8(r.Intn(16))
	}
}

// filled is a device whose text has just so many bytes, the end of its last line among them, if each thing is said by as few as can be.
func filled(bytes int) api.Device {
	d := api.Device{Name: "a", Kind: api.Flat}
	left := bytes - len("hostname a\n")
	member := api.Member{Permit: true, All: slices.Repeat([]uint32{65537}, api.MaxPath)}
	line := len("ip community-list n permit\n") + len(" 1:1")*api.MaxPath
	l := api.CommunityList{Name: "n"}
	for ; left > line+60; left -= line {
		l.Members = append(l.Members, member)
	}
	d.Communities = []api.CommunityList{l}
	for left > 0 {
		// The last two lines share what is left.
		length := len("vrf " + strings.Repeat("n", api.MaxName) + "\n")
		if left <= 60 {
			length = left - left/2
		}
		if left <= 30 {
			length = left
		}
		left -= length
		d.VRFs = append(d.VRFs, fmt.Sprintf("v%0*d", length-len("vrf v\n"), len(d.VRFs)))
	}
	return d
}

// P13.2, P13.3: what takes a whole text can be written; what no text of the language has room for can't.
func TestPrintLongest(t *testing.T) {
	for _, bytes := range []int{api.MaxText - 300, api.MaxText - 1, api.MaxText, api.MaxText + 1} {
		d := filled(bytes)
		s := printed(t, d)
		if len(s) != min(bytes, api.MaxText) {
			t.Error(bytes, len(s))
		}
		if again, _, e := flat.Parse(strings.TrimSuffix(s, "\n")); e != api.OK || !alike(again, d) {
			t.Error(bytes, e)
		}
	}
	for _, bytes := range []int{api.MaxText + 2, api.MaxText + 3, api.MaxText + 50, 2 * api.MaxText} {
		d := filled(bytes)
		if s, e := flat.Print(d); !canBeWritten(d) && bytes < 2*api.MaxText || e != api.ErrModel || s != "" {
			t.Error(bytes, e, len(s))
		}
	}
	for bytes := api.MaxText - 20; bytes < api.MaxText+5; bytes++ {
		// More stands behind what fits.
		d := filled(bytes)
		d.BGP = []api.BGP{{AS: 1, ID: 1}}
		if s, e := flat.Print(d); !canBeWritten(d) || e != api.ErrModel || s != "" {
			t.Error(bytes, e, len(s))
		}
	}
}

// lines is a device of so many lines of a text.
func lines(count int) api.Device {
	d := api.Device{Name: "a", Kind: api.Flat}
	for left := count - 1; left > 0; left -= 8 {
		if n := len(d.Policies); n == 0 || len(d.Policies[n-1].Clauses) == api.MaxRules {
			d.Policies = append(d.Policies, api.Policy{Name: fmt.Sprint("p", n)})
		}
		p := &d.Policies[len(d.Policies)-1]
		c := api.Clause{Seq: len(p.Clauses) + 1, Tag: -1, Metric: -1, Through: -1, SetMetric: -1, SetPref: -1, SetTag: -1}
		for i, say := range []func(){func() { c.Tag = 1 }, func() { c.Metric = 1 }, func() { c.Through = 1 }, func() { c.SetMetric = 1 }, func() { c.SetTag = 1 }, func() { c.Prepend = []uint32{1} }, func() { c.Jump = 999 }} {
			if i+1 < left {
				say()
			}
		}
		p.Clauses = append(p.Clauses, c)
	}
	return d
}

// P13.2, P13.3: as many lines as may be, and one more.
func TestPrintMostLines(t *testing.T) {
	for _, count := range []int{1, 2, 9, 10, 4000, api.MaxLines - 1, api.MaxLines} {
		if s := printed(t, lines(count)); strings.Count(s, "\n") != count {
			t.Error(count, strings.Count(s, "\n"))
		}
	}
	for _, count := range []int{api.MaxLines + 1, api.MaxLines + 8} {
		d := lines(count)
		if s, e := flat.Print(d); !canBeWritten(d) || e != api.ErrModel || s != "" {
			t.Error(count, e, len(s))
		}
	}
}

// P13.2: as many things as may be.
func TestPrintMostThings(t *testing.T) {
	d := api.Device{Name: "a", Kind: api.Flat}
	for i := range api.MaxRules {
		d.VRFs = append(d.VRFs, fmt.Sprint("v", i))
		d.Filters = append(d.Filters, api.Filter{Name: fmt.Sprint("f", i)})
		d.Statics = append(d.Statics, api.Static{Discard: true, Dist: 1})
		d.Rewrites = append(d.Rewrites, api.Rewrite{Filter: "f0", To: 1})
	}
	for i := range api.MaxIfaces {
		d.Ifaces = append(d.Ifaces, api.Iface{Name: fmt.Sprint("e", i), Area: -1, Cost: 1})
	}
	d.Filters[7].Rules = slices.Repeat([]api.Rule{{Proto: -1, SrcPorts: api.Span{Hi: 65535}, DstPorts: api.Span{Hi: 65535}}}, api.MaxRules)
	printed(t, d)
	d.Filters[7].Rules = append(d.Filters[7].Rules, d.Filters[7].Rules[0])
	if s, e := flat.Print(d); e != api.ErrModel || s != "" {
		t.Error(e, s)
	}
}
