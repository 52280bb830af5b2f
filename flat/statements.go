package flat

import (
	"cmp"
	"slices"
	"strconv"

	"waymark/api"
)

// statement reads a line that stands in no block.
func (r *reader) statement() {
	switch r.Word() {
	case "hostname":
		r.hostname()
	case "vrf":
		r.newVRF()
	case "interface":
		r.newIface()
	case "ip":
		r.ip()
	case "route-map":
		r.newClause()
	case "router":
		r.router()
	default:
		r.Refuse(api.ErrWord)
	}
}

// ip reads what stands behind ip.
func (r *reader) ip() {
	switch r.Word() {
	case "route":
		r.static()
	case "filter":
		r.newFilter()
	case "prefix-list":
		r.entry()
	case "community-list":
		r.member()
	case "nat":
		r.rewrite()
	default:
		r.Refuse(api.ErrWord)
	}
}

// router reads what stands behind router.
func (r *reader) router() {
	switch r.Word() {
	case "ospf":
		r.newOSPF()
	case "bgp":
		r.newBGP()
	default:
		r.Refuse(api.ErrWord)
	}
}

func (r *reader) hostname() {
	r.device.Name = r.Name()
	r.once("hostname", "")
}

func (r *reader) newVRF() {
	name := r.Name()
	r.once("vrf", name)
	r.device.VRFs = append(r.device.VRFs, name)
}

func (r *reader) newIface() {
	name := r.Name()
	r.once("interface", name)
	r.device.Ifaces = append(r.device.Ifaces, api.Iface{Name: name, Area: none, Cost: anyCost})
	r.open(r.inIface)
}

func (r *reader) newFilter() {
	name := r.Name()
	r.once("filter", name)
	r.device.Filters = append(r.device.Filters, api.Filter{Name: name})
	r.open(r.inFilter)
}

func (r *reader) static() {
	s := api.Static{VRF: r.vrf()}
	s.Prefix = r.masked()
	s.Discard = r.Next("discard")
	if !s.Discard {
		s.Via = r.Hop()
	}
	s.Dist = r.Option("distance", 1, topDist, anyDist)
	s.Tag = r.Option("tag", 0, topNumber, 0)
	r.End()
	r.device.Statics = append(r.device.Statics, s)
}

func (r *reader) entry() {
	name := r.Name()
	x := api.Entry{Permit: r.permits()}
	x.Prefix = r.Prefix()
	x.Ge, x.Le = x.Prefix.Bits, x.Prefix.Bits
	if r.Next("ge") {
		x.Ge, x.Le = r.Number(x.Prefix.Bits, topBits), topBits
	}
	x.Le = r.Option("le", x.Ge, topBits, x.Le)
	r.End()
	l := spoken(r, "prefix-list", name, &r.device.Prefixes, api.PrefixList{Name: name})
	l.Entries = append(l.Entries, x)
}

func (r *reader) member() {
	name := r.Name()
	x := api.Member{Permit: r.permits()}
	x.All = r.Communities()
	l := spoken(r, "community-list", name, &r.device.Communities, api.CommunityList{Name: name})
	l.Members = append(l.Members, x)
}

func (r *reader) rewrite() {
	x := api.Rewrite{Dest: r.One("source", "destination") == "destination"}
	r.One("filter")
	x.Filter = r.Name()
	r.One("to")
	x.To = r.Addr()
	r.End()
	r.device.Rewrites = append(r.device.Rewrites, x)
}

// newClause reads a route-map, of which each is one more clause of its policy.
func (r *reader) newClause() {
	name := r.Name()
	action := actionOf(r.One(actions()...))
	seq := r.Number(1, topSeq)
	r.once("route-map", name+" "+strconv.Itoa(seq))
	r.policy = spoken(r, "route-map", name, &r.device.Policies, api.Policy{Name: name})
	r.policy.Clauses = append(r.policy.Clauses, api.Clause{Seq: seq, Action: action, Tag: none, Metric: none, Through: none, SetMetric: none, SetPref: none, SetTag: none})
	r.open(r.inClause)
}

func (r *reader) newOSPF() {
	vrf := r.vrf()
	r.once("router ospf", vrf)
	r.device.OSPF = append(r.device.OSPF, api.OSPF{VRF: vrf})
	r.open(r.inOSPF)
}

func (r *reader) newBGP() {
	x := api.BGP{AS: r.AS()}
	x.VRF = r.vrf()
	r.once("router bgp", x.VRF)
	r.device.BGP = append(r.device.BGP, x)
	r.open(r.inBGP)
}

// sortClauses puts the clauses of policies in order.
func sortClauses(l []api.Policy) {
	for _, p := range l {
		slices.SortFunc(p.Clauses, func(a, b api.Clause) int { return cmp.Compare(a.Seq, b.Seq) })
	}
}
