package flat_test

import (
	"slices"
	"strconv"
	"strings"

	"waymark/addr"
	"waymark/api"
	"waymark/lists"
)

// told is what a text says, by the tests' own reckoning: a device, or where it is refused.
type told struct {
	d     api.Device
	block string
	name  string // of the clause's policy whose block is open
	seq   int
	once  map[string]bool
	here  map[string]bool
}

func newTold() told { return told{d: api.Device{Kind: api.Flat}, once: map[string]bool{}} }

// plain reads a text that lex takes.
func plain(s string) (api.Device, api.Pos, api.Errno) {
	t := newTold()
	for i, l := range strings.Split(s, "\n") {
		words := strings.Fields(l)
		if len(words) == 0 || words[0][0] == '!' {
			continue
		}
		if col, e := t.line(l, words); e != api.OK {
			return api.Device{}, api.Pos{Line: i + 1, Col: col}, e
		}
	}
	if t.d.Name == "" {
		return api.Device{}, api.Pos{}, api.ErrNone
	}
	return t.d, api.Pos{}, api.OK
}

// line reads a line, or tells where it is refused; then nothing has changed.
func (t *told) line(l string, words []string) (int, api.Errno) {
	indent := strings.Index(l, words[0])
	if indent > 1 || indent == 1 && t.block == "" {
		return indent + 1, api.ErrBlank
	}
	within := t.block
	if indent == 0 {
		within = ""
	}
	if n, e := wrongWord(within, words, t.seq); e != api.OK {
		return column(l, n), e
	}
	once := t.once
	if indent == 1 {
		once = t.here
	}
	key := single(within, words)
	switch {
	case key != "" && once[key]:
		return indent + 1, api.ErrTwice
	case within == "router bgp" && words[0] == "neighbor" && words[2] != "as" && !once["neighbor "+words[1]+" as"]:
		return indent + 1, api.ErrRef
	}
	once[key] = true
	if indent == 0 {
		t.open(words)
		t.statement(words)
	} else {
		t.within(words)
	}
	return 0, api.OK
}

// column is where the word of a place begins; behind the last one, where that ends.
func column(l string, n int) int {
	at := 0
	for i, w := range strings.Fields(l) {
		at += strings.Index(l[at:], w)
		if i == n {
			return at + 1
		}
		at += len(w)
	}
	return at + 1
}

// single tells by what a line may stand once, if it may.
func single(block string, w []string) string {
	named := func(at int) string {
		return strings.Join(w[:at], " ") + " " + strings.Join(append(w, "", "")[at:at+1], "")
	}
	last := w[len(w)-1]
	switch {
	case block == "ip filter", w[0] == "redistribute", slices.Contains([]string{"ip route", "ip prefix-list", "ip community-list", "ip nat"}, strings.Join(w[:min(2, len(w))], " ")):
		return ""
	case w[0] == "hostname", w[0] == "address", w[0] == "nat", w[0] == "shutdown", w[0] == "continue", w[0] == "router-id", block == "interface" && w[0] == "vrf":
		return w[0]
	case w[0] == "vrf", w[0] == "interface":
		return named(1)
	case w[0] == "ip":
		return named(2)
	case w[0] == "route-map":
		return "route-map " + w[1] + " " + w[3]
	case w[0] == "router":
		return w[0] + " " + w[1] + " " + after(w, "vrf", "")
	case w[0] == "filter":
		return "filter " + last
	case w[0] == "network":
		return "network " + w[1] + " " + w[2]
	case w[0] == "neighbor" && w[2] == "route-map":
		return "neighbor " + w[1] + " " + last
	case w[0] == "neighbor":
		return "neighbor " + w[1] + " " + w[2]
	}
	return w[0] + " " + w[1]
}

// after is the word behind another one, which isn't the first; of several the last one.
func after(w []string, word, unsaid string) string {
	for i := len(w) - 2; i > 0; i-- {
		if w[i] == word {
			return w[i+1]
		}
	}
	return unsaid
}

// open notes which block a statement opens.
func (t *told) open(w []string) {
	t.block, t.here = "", map[string]bool{}
	for _, o := range opens {
		if strings.HasPrefix(strings.Join(w, " ")+" ", o+" ") {
			t.block = o
		}
	}
}

func atoi(s string) int {
	n, _ := strconv.Atoi(s)
	return n
}

func toAddr(s string) api.Addr {
	a, _ := address(s)
	return a
}

func numberAfter(w []string, word string, unsaid int) int {
	return atoi(after(w, word, strconv.Itoa(unsaid)))
}

func prefixOf(a, m string) api.Prefix {
	return api.Prefix{Addr: toAddr(a), Bits: maskBits(toAddr(m))}
}

func communities(w []string) []uint32 {
	var l []uint32
	for _, x := range w {
		c, _ := lists.Parse(x)
		l = append(l, c)
	}
	return l
}

// statement says what a line of indent 0 says that may stand.
func (t *told) statement(w []string) {
	d := &t.d
	switch w[0] {
	case "hostname":
		d.Name = w[1]
	case "vrf":
		d.VRFs = append(d.VRFs, w[1])
	case "interface":
		d.Ifaces = append(d.Ifaces, api.Iface{Name: w[1], Area: -1, Cost: 10})
	case "ip":
		t.ip(w)
	case "route-map":
		t.clause(w)
	case "router":
		if w[1] == "ospf" {
			d.OSPF = append(d.OSPF, api.OSPF{VRF: after(w, "vrf", "")})
		} else {
			d.BGP = append(d.BGP, api.BGP{AS: uint32(atoi(w[2])), VRF: after(w[2:], "vrf", "")})
		}
	}
}

func (t *told) ip(w []string) {
	d := &t.d
	switch w[1] {
	case "route":
		s := api.Static{Dist: 1}
		w = w[2:]
		if w[0] == "vrf" {
			s.VRF, w = w[1], w[2:]
		}
		s.Prefix, s.Discard, s.Via = prefixOf(w[0], w[1]), w[2] == "discard", toAddr(w[2])
		s.Dist, s.Tag = numberAfter(w, "distance", 1), numberAfter(w, "tag", 0)
		d.Statics = append(d.Statics, s)
	case "filter":
		d.Filters = append(d.Filters, api.Filter{Name: w[2]})
	case "prefix-list":
		i := slices.IndexFunc(d.Prefixes, func(l api.PrefixList) bool { return l.Name == w[2] })
		if i < 0 {
			i = len(d.Prefixes)
			d.Prefixes = append(d.Prefixes, api.PrefixList{Name: w[2]})
		}
		e := api.Entry{Permit: w[3] == "permit"}
		e.Prefix, _ = addr.ParsePrefix(w[4])
		e.Ge = numberAfter(w[4:], "ge", e.Prefix.Bits)
		e.Le = e.Prefix.Bits
		if len(w) == 7 && w[5] == "ge" {
			e.Le = 32
		}
		e.Le = numberAfter(w[4:], "le", e.Le)
		d.Prefixes[i].Entries = append(d.Prefixes[i].Entries, e)
	case "community-list":
		i := slices.IndexFunc(d.Communities, func(l api.CommunityList) bool { return l.Name == w[2] })
		if i < 0 {
			i = len(d.Communities)
			d.Communities = append(d.Communities, api.CommunityList{Name: w[2]})
		}
		d.Communities[i].Members = append(d.Communities[i].Members, api.Member{Permit: w[3] == "permit", All: communities(w[4:])})
	case "nat":
		d.Rewrites = append(d.Rewrites, api.Rewrite{Dest: w[2] == "destination", Filter: w[4], To: toAddr(w[6])})
	}
}

// clause puts one more clause where its Seq says, and leaves the others as they are.
func (t *told) clause(w []string) {
	d := &t.d
	i := slices.IndexFunc(d.Policies, func(p api.Policy) bool { return p.Name == w[1] })
	if i < 0 {
		i = len(d.Policies)
		d.Policies = append(d.Policies, api.Policy{Name: w[1]})
	}
	t.name, t.seq = w[1], atoi(w[3])
	c := api.Clause{Seq: t.seq, Action: map[string]uint8{"deny": 0, "permit": 1, "next": 2}[w[2]], Tag: -1, Metric: -1, Through: -1, SetMetric: -1, SetPref: -1, SetTag: -1}
	at := 0
	for _, x := range d.Policies[i].Clauses {
		if x.Seq < c.Seq {
			at++
		}
	}
	d.Policies[i].Clauses = slices.Insert(d.Policies[i].Clauses, at, c)
}

// within says what a line of indent 1 says that may stand.
func (t *told) within(w []string) {
	d := &t.d
	switch t.block {
	case "interface":
		sayIface(&d.Ifaces[len(d.Ifaces)-1], w)
	case "ip filter":
		f := &d.Filters[len(d.Filters)-1]
		f.Rules = append(f.Rules, ruleOf(w))
	case "router ospf":
		o := &d.OSPF[len(d.OSPF)-1]
		if w[0] == "router-id" {
			o.ID = toAddr(w[1])
		} else {
			o.From = append(o.From, redistOf(w, uint8(numberAfter(w, "type", 2))))
		}
	case "router bgp":
		sayBGP(&d.BGP[len(d.BGP)-1], w)
	case "route-map":
		i := slices.IndexFunc(d.Policies, func(p api.Policy) bool { return p.Name == t.name })
		l := d.Policies[i].Clauses
		sayClause(&l[slices.IndexFunc(l, func(c api.Clause) bool { return c.Seq == t.seq })], w)
	}
}

func sayIface(i *api.Iface, w []string) {
	switch w[0] + " " + w[len(w)-1] {
	case "filter in":
		i.In = w[1]
	case "filter out":
		i.Out = w[1]
	case "nat inside":
		i.Side = 1
	case "nat outside":
		i.Side = 2
	case "ospf passive":
		i.Passive = true
	case "shutdown shutdown":
		i.Down = true
	}
	switch strings.Join(w[:max(1, len(w)-1)], " ") {
	case "vrf":
		i.VRF = w[1]
	case "ospf area":
		i.Area = atoi(w[2])
	case "ospf cost":
		i.Cost = atoi(w[2])
	}
	if w[0] == "address" {
		i.Addr, i.Bits = toAddr(w[1]), maskBits(toAddr(w[2]))
	}
}

func ruleOf(w []string) api.Rule {
	r := api.Rule{Permit: w[0] == "permit"}
	switch w[1] {
	case "any":
		r.Proto = -1
	case "tcp":
		r.Proto = 6
	case "udp":
		r.Proto = 17
	case "icmp":
		r.Proto = 1
	default:
		r.Proto = atoi(w[1])
	}
	w = w[2:]
	for _, end := range []struct {
		p *api.Prefix
		s *api.Span
	}{{&r.Src, &r.SrcPorts}, {&r.Dst, &r.DstPorts}} {
		switch w[0] {
		case "any":
			w = w[1:]
		case "host":
			*end.p, w = api.Prefix{Addr: toAddr(w[1]), Bits: 32}, w[2:]
		default:
			*end.p, w = api.Prefix{Addr: toAddr(w[0]), Bits: maskBits(^toAddr(w[1]))}, w[2:]
		}
		end.s.Hi = 65535
		if len(w) > 0 && (w[0] == "eq" || w[0] == "range") {
			n := len(w[0]) / 2 // numbers: one behind eq, two behind range
			*end.s, w = api.Span{Lo: uint32(atoi(w[1])), Hi: uint32(atoi(w[n]))}, w[n+1:]
		}
	}
	return r
}

func redistOf(w []string, kind uint8) api.Redist {
	from := map[string]uint8{"connected": 1, "static": 2, "ospf": 4, "bgp": 8}
	return api.Redist{From: from[w[1]], Metric: numberAfter(w, "metric", -1), Type: kind, Policy: after(w, "route-map", "")}
}

func sayBGP(b *api.BGP, w []string) {
	switch w[0] {
	case "router-id":
		b.ID = toAddr(w[1])
	case "network":
		b.Nets = append(b.Nets, prefixOf(w[1], w[2]))
	case "redistribute":
		b.From = append(b.From, redistOf(w, 0))
	case "neighbor":
		if w[2] == "as" {
			b.Peers = append(b.Peers, api.Peer{Addr: toAddr(w[1]), AS: uint32(atoi(w[3]))})
			return
		}
		for i := range b.Peers {
			if p := &b.Peers[i]; p.Addr == toAddr(w[1]) {
				p.Client = p.Client || w[2] == "client"
				p.Self = p.Self || w[2] == "next-hop-self"
				if len(w) == 5 && w[4] == "in" {
					p.In = w[3]
				} else if len(w) == 5 {
					p.Out = w[3]
				}
			}
		}
	}
}

func sayClause(c *api.Clause, w []string) {
	last := w[len(w)-1]
	switch w[0] + " " + w[1] {
	case "match prefix-list":
		c.Prefixes = last
	case "match community-list":
		c.Communities = last
	case "match tag":
		c.Tag = atoi(last)
	case "match metric":
		c.Metric = atoi(last)
	case "match as":
		c.Through = atoi(last)
	case "set metric":
		c.SetMetric = atoi(last)
	case "set preference":
		c.SetPref = atoi(last)
	case "set tag":
		c.SetTag = atoi(last)
	case "set next-hop":
		c.SetHop = toAddr(last)
	case "set prepend":
		for _, x := range w[2:] {
			c.Prepend = append(c.Prepend, uint32(atoi(x)))
		}
	case "set community":
		c.Add = w[2] == "add"
		c.SetComm = communities(slices.DeleteFunc(w[2:], func(x string) bool { return x == "add" }))
	default:
		c.Jump = atoi(last)
	}
}
