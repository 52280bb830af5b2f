package nested_test

import (
	"slices"
	"strings"

	"waymark/addr"
	"waymark/api"
	"waymark/lists"
	"waymark/tree"
)

// told is what statements say, by the tests' own reckoning.
type told struct{ d api.Device }

// plain reads merged statements.
func plain(l []tree.Node) (api.Device, api.Pos, api.Errno) {
	t := told{api.Device{Kind: api.Nested}}
	if pos, e := t.block("text", l); e != api.OK {
		return api.Device{}, pos, e
	}
	if t.d.Name == "" {
		return api.Device{}, api.Pos{}, api.ErrNone
	}
	return t.d, api.Pos{}, api.OK
}

// block reads the statements of a kind of block, or tells where one is refused.
func (t *told) block(kind string, l []tree.Node) (api.Pos, api.Errno) {
	once := map[string]bool{}
	for _, n := range l {
		r, at, e := match(kind, n)
		switch {
		case e != api.OK:
			return place(n, at), e
		case r.once && once[r.pattern]:
			return place(n, 0), api.ErrTwice
		}
		once[r.pattern] = true
		t.say(kind, n.Words)
		if !n.Block {
			continue
		}
		if pos, e := t.block(r.opens, n.Kids); e != api.OK {
			return pos, e
		}
		if r.opens == "rule" && !says(n.Kids, "then") {
			return place(n, 0), api.ErrNone
		}
	}
	return api.Pos{}, api.OK
}

func toAddr(s string) api.Addr {
	a, _ := addr.Parse(s)
	return a
}

func toPrefix(s string) api.Prefix {
	p, _ := addr.ParsePrefix(s)
	return p
}

func communities(w []string) []uint32 {
	var l []uint32
	for _, x := range w {
		c, _ := lists.Parse(x)
		l = append(l, c)
	}
	return l
}

// of is the thing of which a block speaks.
func of[T any](l []T) *T { return &l[len(l)-1] }

// say says what a statement of a kind of block says that may stand there.
func (t *told) say(kind string, w []string) {
	d := &t.d
	switch kind {
	case "system":
		d.Name = w[1]
	case "instances":
		d.VRFs = append(d.VRFs, w[0])
	case "interfaces":
		d.Ifaces = append(d.Ifaces, api.Iface{Name: w[0], Area: -1, Cost: 1})
	case "interface":
		sayIface(of(d.Ifaces), w)
	case "firewall":
		d.Filters = append(d.Filters, api.Filter{Name: w[1]})
	case "filter":
		f := of(d.Filters)
		f.Rules = append(f.Rules, api.Rule{Proto: -1, SrcPorts: api.Span{Hi: 65535}, DstPorts: api.Span{Hi: 65535}})
	case "rule", "fits":
		sayRule(of(of(d.Filters).Rules), w)
	case "nat":
		d.Rewrites = append(d.Rewrites, api.Rewrite{Dest: w[0] == "destination", Filter: w[1], To: toAddr(w[3])})
	case "routes":
		d.Statics = append(d.Statics, staticOf(w))
	case "policy", "entries", "members", "statement", "asks", "sets":
		t.sayPolicy(kind, w)
	case "protocols", "ospf", "bgp", "peer":
		t.sayProtocol(kind, w)
	}
}

func sayIface(i *api.Iface, w []string) {
	switch w[0] {
	case "instance":
		i.VRF = w[1]
	case "address":
		a, bits, _ := strings.Cut(w[1], "/")
		i.Addr, i.Bits = toAddr(a), atoi(bits)
	case "filter":
		*map[string]*string{"input": &i.In, "output": &i.Out}[w[1]] = w[2]
	case "nat":
		i.Side = map[string]uint8{"inside": 1, "outside": 2}[w[1]]
	case "area":
		i.Area = atoi(w[1])
	case "metric":
		i.Cost = atoi(w[1])
	case "passive":
		i.Passive = true
	case "disable":
		i.Down = true
	}
}

func staticOf(w []string) api.Static {
	s := api.Static{Prefix: toPrefix(w[1]), Discard: w[2] == "discard"}
	w = w[3:]
	if !s.Discard {
		s.Via, w = toAddr(w[0]), w[1:]
	}
	s.VRF, s.Dist, s.Tag = said(w, "instance", ""), numberSaid(w, "preference", 5), numberSaid(w, "tag", 0)
	return s
}

func sayRule(r *api.Rule, w []string) {
	var ports api.Span
	if n := strings.Split(w[len(w)-1], "-"); strings.HasSuffix(w[0], "-port") {
		ports = api.Span{Lo: uint32(atoi(n[0])), Hi: uint32(atoi(n[len(n)-1]))}
	}
	switch w[0] {
	case "protocol":
		r.Proto = atoi(w[1])
		if n, is := map[string]int{"tcp": 6, "udp": 17, "icmp": 1}[w[1]]; is {
			r.Proto = n
		}
	case "source":
		r.Src = toPrefix(w[1])
	case "destination":
		r.Dst = toPrefix(w[1])
	case "source-port":
		r.SrcPorts = ports
	case "destination-port":
		r.DstPorts = ports
	case "then":
		r.Permit = w[1] == "accept"
	}
}

func (t *told) sayPolicy(kind string, w []string) {
	d := &t.d
	switch kind + " " + w[0] {
	case "policy prefix-list":
		d.Prefixes = append(d.Prefixes, api.PrefixList{Name: w[1]})
	case "policy community":
		d.Communities = append(d.Communities, api.CommunityList{Name: w[1]})
	case "policy statement":
		d.Policies = append(d.Policies, api.Policy{Name: w[1], Default: true})
	case "statement default":
		of(d.Policies).Default = w[1] == "accept"
	case "statement term":
		p := of(d.Policies)
		p.Clauses = append(p.Clauses, api.Clause{Seq: 10 + 10*len(p.Clauses), Action: api.Next, Tag: -1, Metric: -1, Through: -1, SetMetric: -1, SetPref: -1, SetTag: -1})
	}
	switch kind {
	case "entries":
		e := api.Entry{Permit: !slices.Contains(w, "reject"), Prefix: toPrefix(w[0])}
		e.Ge, e.Le = numberSaid(w[1:], "from", e.Prefix.Bits), e.Prefix.Bits
		if slices.Contains(w, "from") {
			e.Le = 32
		}
		e.Le = numberSaid(w[1:], "upto", e.Le)
		of(d.Prefixes).Entries = append(of(d.Prefixes).Entries, e)
	case "members":
		of(d.Communities).Members = append(of(d.Communities).Members, api.Member{Permit: w[0] == "members", All: communities(w[1:])})
	case "asks":
		sayAsked(of(of(d.Policies).Clauses), w)
	case "sets":
		saySet(of(of(d.Policies).Clauses), w)
	}
}

func sayAsked(c *api.Clause, w []string) {
	switch w[0] {
	case "prefix-list":
		c.Prefixes = w[1]
	case "community":
		c.Communities = w[1]
	case "tag":
		c.Tag = atoi(w[1])
	case "metric":
		c.Metric = atoi(w[1])
	case "as":
		c.Through = atoi(w[1])
	}
}

func saySet(c *api.Clause, w []string) {
	switch w[0] {
	case "accept", "reject", "next":
		c.Action = map[string]uint8{"reject": api.Deny, "accept": api.Permit, "next": api.Next}[w[0]]
	case "metric":
		c.SetMetric = atoi(w[1])
	case "preference":
		c.SetPref = atoi(w[1])
	case "tag":
		c.SetTag = atoi(w[1])
	case "community":
		c.Add, c.SetComm = w[1] == "add", communities(w[2:])
	case "prepend":
		for _, x := range w[1:] {
			c.Prepend = append(c.Prepend, uint32(atoi(x)))
		}
	case "next-hop":
		c.SetHop = toAddr(w[1])
	}
}

func redistOf(w []string, kind int) api.Redist {
	from := map[string]uint8{"direct": 1, "static": 2, "ospf": 4, "bgp": 8}
	return api.Redist{From: from[w[1]], Metric: numberSaid(w[2:], "metric", -1), Type: uint8(kind), Policy: said(w[2:], "policy", "")}
}

func (t *told) sayProtocol(kind string, w []string) {
	d := &t.d
	switch kind + " " + w[0] {
	case "protocols ospf":
		d.OSPF = append(d.OSPF, api.OSPF{VRF: said(w, "ospf", "")})
	case "protocols bgp":
		d.BGP = append(d.BGP, api.BGP{VRF: said(w, "bgp", "")})
	case "ospf router-id":
		of(d.OSPF).ID = toAddr(w[1])
	case "ospf export":
		of(d.OSPF).From = append(of(d.OSPF).From, redistOf(w, numberSaid(w[2:], "type", 2)))
	case "bgp router-id":
		of(d.BGP).ID = toAddr(w[1])
	case "bgp local-as":
		of(d.BGP).AS = uint32(atoi(w[1]))
	case "bgp network":
		of(d.BGP).Nets = append(of(d.BGP).Nets, toPrefix(w[1]))
	case "bgp neighbor":
		of(d.BGP).Peers = append(of(d.BGP).Peers, api.Peer{Addr: toAddr(w[1])})
	case "bgp export":
		of(d.BGP).From = append(of(d.BGP).From, redistOf(w, 0))
	}
	if kind != "peer" {
		return
	}
	p := of(of(d.BGP).Peers)
	switch w[0] {
	case "peer-as":
		p.AS = uint32(atoi(w[1]))
	case "import":
		p.In = w[1]
	case "export":
		p.Out = w[1]
	case "client":
		p.Client = true
	case "next-hop-self":
		p.Self = true
	}
}
