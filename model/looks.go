package model

import (
	"waymark/addr"
	"waymark/api"
)

// Numbers that a device may have: none where nothing need be said, and the greatest ones.
const (
	none      = -1
	topNumber = 1 << 24 // of areas, metrics, preferences and tags
	topCost   = 65535
	topSeq    = 65535
	topDist   = 255
	topBits   = 32
	topAS     = 1<<32 - 1
)

// ifaceLook looks at interfaces.
func ifaceLook(vrfs, filters names) look[api.Iface] {
	first := unlike[string]()
	return func(x api.Iface) (may, there bool) {
		may = isName(x.Name) && first(x.Name) && addressMay(x) && x.Side <= api.Outside &&
			within(x.Area, none, topNumber) && within(x.Cost, 1, topCost)
		return may, vrfs.has(x.VRF) && filters.has(x.In) && filters.has(x.Out)
	}
}

// addressMay tells whether an interface has an address that may be, or none.
func addressMay(x api.Iface) bool {
	return !addressed(x) || x.Addr != 0 && within(x.Bits, 1, topBits)
}

// rewriteLook looks at rewrites.
func rewriteLook(filters names) look[api.Rewrite] {
	return func(r api.Rewrite) (may, there bool) { return r.To != 0, filters.has(r.Filter) }
}

// staticLook looks at routes that are written down.
func staticLook(vrfs names) look[api.Static] {
	return func(s api.Static) (may, there bool) {
		may = prefixMay(s.Prefix) && s.Discard == (s.Via == 0) && within(s.Dist, 1, topDist) && within(s.Tag, 0, topNumber)
		return may, vrfs.has(s.VRF)
	}
}

// prefixMay tells whether a prefix may be.
func prefixMay(p api.Prefix) bool { return addr.Check(p) == api.OK }

// prefixesMay tells whether a prefix list may be, but for its name.
func prefixesMay(l api.PrefixList) bool {
	return few(l.Entries, api.MaxRules, func(e api.Entry) bool {
		return prefixMay(e.Prefix) && e.Prefix.Bits <= e.Ge && e.Ge <= e.Le && e.Le <= topBits
	})
}

// communitiesMay tells whether a community list may be, but for its name.
func communitiesMay(l api.CommunityList) bool {
	return few(l.Members, api.MaxRules, func(m api.Member) bool { return len(m.All) <= api.MaxPath })
}

// policyLook looks at policies.
func policyLook(prefixes, communities names) look[api.Policy] {
	first := unlike[string]()
	return func(p api.Policy) (may, there bool) {
		may = isName(p.Name) && first(p.Name) && few(p.Clauses, api.MaxRules, clausesMay())
		return may, every(p.Clauses, func(c api.Clause) bool { return prefixes.has(c.Prefixes) && communities.has(c.Communities) })
	}
}

// clausesMay makes what tells of a policy's clauses, one behind the other, whether each may be, but for the lists that it names.
func clausesMay() func(api.Clause) bool {
	last := 0
	return func(c api.Clause) bool {
		rises := c.Seq > last
		last = c.Seq
		return rises && c.Seq <= topSeq && c.Action <= api.Next && asksMay(c) && setsMay(c) &&
			(c.Jump == 0 || within(c.Jump, c.Seq+1, topSeq))
	}
}

// asksMay tells whether what a clause asks may be, but for the lists that it names.
func asksMay(c api.Clause) bool {
	return within(c.Tag, none, topNumber) && within(c.Metric, none, topNumber) &&
		(c.Through == none || within(c.Through, 1, topAS))
}

// setsMay tells whether what a clause sets may be.
func setsMay(c api.Clause) bool {
	return within(c.SetMetric, none, topNumber) && within(c.SetPref, none, topNumber) && within(c.SetTag, none, topNumber) &&
		len(c.SetComm) <= api.MaxPath && (len(c.SetComm) > 0 || !c.Add) &&
		few(c.Prepend, api.MaxPath, func(as uint32) bool { return as != 0 })
}

// ospfLook looks at OSPF instances.
func ospfLook(vrfs, policies names) look[api.OSPF] {
	first := unlike[string]()
	return func(o api.OSPF) (may, there bool) {
		may = o.ID != 0 && first(o.VRF) && few(o.From, api.MaxRules, func(r api.Redist) bool {
			return redistMay(r, api.FromConnected|api.FromStatic|api.FromBGP) && within(int(r.Type), 1, 2)
		})
		return may, vrfs.has(o.VRF) && redistsThere(o.From, policies)
	}
}

// bgpLook looks at BGP instances.
func bgpLook(vrfs, policies names) look[api.BGP] {
	first := unlike[string]()
	return func(b api.BGP) (may, there bool) {
		may = b.AS != 0 && b.ID != 0 && first(b.VRF) &&
			few(b.Nets, api.MaxRules, netsMay()) && few(b.Peers, api.MaxRules, peersMay()) &&
			few(b.From, api.MaxRules, func(r api.Redist) bool {
				return redistMay(r, api.FromConnected|api.FromStatic|api.FromOSPF) && r.Type == 0
			})
		return may, vrfs.has(b.VRF) && redistsThere(b.From, policies) &&
			every(b.Peers, func(p api.Peer) bool { return policies.has(p.In) && policies.has(p.Out) })
	}
}

// netsMay makes what tells of an instance's nets, one behind the other, whether each may be.
func netsMay() func(api.Prefix) bool {
	first := unlike[api.Prefix]()
	return func(p api.Prefix) bool { return prefixMay(p) && first(p) }
}

// peersMay makes what tells of an instance's neighbours, one behind the other, whether each may be, but for the policies that it names.
func peersMay() func(api.Peer) bool {
	first := unlike[api.Addr]()
	return func(p api.Peer) bool { return p.Addr != 0 && first(p.Addr) && p.AS != 0 }
}

// redistMay tells whether a Redist takes over from some of these sides and no others, with a metric that may be.
func redistMay(r api.Redist, sides uint8) bool {
	return r.From != 0 && r.From&^sides == 0 && within(r.Metric, none, topNumber)
}

// redistsThere tells whether the policies that Redists name are there.
func redistsThere(l []api.Redist, policies names) bool {
	return every(l, func(r api.Redist) bool { return policies.has(r.Policy) })
}
