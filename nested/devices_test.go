package nested_test

import (
	"fmt"
	"math"
	"math/rand"
	"slices"
	"strings"

	"waymark/api"
	"waymark/model"
)

const top = 1 << 24

// between is a number: an end, or some number between.
func between(r *rand.Rand, least, most int) int {
	switch r.Intn(4) {
	case 0:
		return least
	case 1:
		return most
	case 2:
		return min(most, least+r.Intn(12))
	}
	return least + r.Intn(most-least+1)
}

// some is a list of up to so many things, no two of them the same.
func some[T any](r *rand.Rand, most int, thing func(i int) T) []T {
	var l []T
	for i := range r.Intn(most + 1) {
		x := thing(i)
		if !slices.ContainsFunc(l, func(y T) bool { return fmt.Sprint(x) == fmt.Sprint(y) }) {
			l = append(l, x)
		}
	}
	return l
}

// nameOf makes names that do not rise.
func nameOf(kind string) func(i int) string {
	return func(i int) string { return fmt.Sprint(kind, i*7%10) }
}

// oneOf is the name of some thing of a list, or none.
func oneOf[T any](r *rand.Rand, l []T, name func(T) string) string {
	if n := r.Intn(len(l) + 1); n > 0 {
		return name(l[n-1])
	}
	return ""
}

func anyPrefix(r *rand.Rand) api.Prefix {
	bits := between(r, 0, 32)
	return api.Prefix{Addr: api.Addr(r.Uint64()>>32<<(32-bits)) & math.MaxUint32, Bits: bits}
}

func anyAddr(r *rand.Rand) api.Addr { return api.Addr(between(r, 1, math.MaxUint32)) }

func anyPorts(r *rand.Rand) api.Span {
	lo := between(r, 0, 65535)
	return api.Span{Lo: uint32(lo), Hi: uint32(between(r, lo, 65535))}
}

func anyRule(r *rand.Rand) api.Rule {
	x := api.Rule{Permit: r.Intn(2) == 0, Proto: between(r, -1, 255), Src: anyPrefix(r), Dst: anyPrefix(r), SrcPorts: api.Span{Hi: 65535}, DstPorts: anyPorts(r)}
	if r.Intn(2) == 0 {
		x.SrcPorts, x.DstPorts = anyPorts(r), api.Span{Hi: 65535}
	}
	return x
}

func anyEntry(r *rand.Rand) api.Entry {
	x := api.Entry{Permit: r.Intn(2) == 0, Prefix: anyPrefix(r)}
	x.Ge = between(r, x.Prefix.Bits, 32)
	x.Le = between(r, x.Ge, 32)
	return x
}

func anyNumbers(r *rand.Rand, least, most int) []uint32 {
	l := make([]uint32, least+r.Intn(most-least+1))
	for i := range l {
		l[i] = uint32(between(r, 1, math.MaxUint32))
	}
	return l
}

// anyDevice is one that can be written.
func anyDevice(r *rand.Rand) api.Device {
	d := api.Device{Name: pick(r, "a", "r-1/2.x_", "apply-groups", strings.Repeat("h", 32)), Kind: api.Nested}
	d.VRFs = some(r, 3, nameOf("v"))
	d.Filters = some(r, 3, func(i int) api.Filter {
		return api.Filter{Name: nameOf("f")(i), Rules: some(r, 4, func(int) api.Rule { return anyRule(r) })}
	})
	d.Prefixes = some(r, 3, func(i int) api.PrefixList {
		return api.PrefixList{Name: nameOf("p")(i), Entries: some(r, 4, func(int) api.Entry { return anyEntry(r) })}
	})
	d.Communities = some(r, 3, func(i int) api.CommunityList {
		member := func(int) api.Member { return api.Member{Permit: r.Intn(2) == 0, All: anyNumbers(r, 1, 4)} }
		return api.CommunityList{Name: nameOf("c")(i), Members: some(r, 4, member)}
	})
	vrf := func() string { return oneOf(r, d.VRFs, func(s string) string { return s }) }
	filter := func() string { return oneOf(r, d.Filters, func(f api.Filter) string { return f.Name }) }
	d.Ifaces = some(r, 4, func(i int) api.Iface {
		x := api.Iface{Name: nameOf("e")(i), VRF: vrf(), Down: r.Intn(2) == 0, In: filter(), Out: filter(), Side: uint8(r.Intn(3)), Area: between(r, -1, top), Cost: between(r, 1, 65535), Passive: r.Intn(2) == 0}
		if r.Intn(3) > 0 {
			x.Addr, x.Bits = anyAddr(r), between(r, 1, 32)
		}
		return x
	})
	if len(d.Filters) > 0 {
		d.Rewrites = some(r, 3, func(int) api.Rewrite {
			return api.Rewrite{Dest: r.Intn(2) == 0, Filter: d.Filters[r.Intn(len(d.Filters))].Name, To: anyAddr(r)}
		})
	}
	d.Statics = some(r, 4, func(int) api.Static {
		x := api.Static{VRF: vrf(), Prefix: anyPrefix(r), Discard: r.Intn(2) == 0, Dist: between(r, 1, 255), Tag: between(r, 0, top)}
		if !x.Discard {
			x.Via = anyAddr(r)
		}
		return x
	})
	routing(r, &d)
	return d
}

// routing gives a device policies and instances.
func routing(r *rand.Rand, d *api.Device) {
	d.Policies = some(r, 3, func(i int) api.Policy {
		p := api.Policy{Name: nameOf("m")(i), Default: r.Intn(2) == 0}
		for k := range r.Intn(4) {
			p.Clauses = append(p.Clauses, anyClause(r, d, 10*(k+1)))
		}
		return p
	})
	policy := func() string { return oneOf(r, d.Policies, func(p api.Policy) string { return p.Name }) }
	for i, v := range append([]string{""}, d.VRFs...) {
		redists := func(other, kinds uint8) []api.Redist {
			return some(r, 3, func(int) api.Redist {
				return api.Redist{From: []uint8{api.FromConnected, api.FromStatic, other}[r.Intn(3)], Metric: between(r, -1, top), Type: kinds * uint8(1+r.Intn(2)), Policy: policy()}
			})
		}
		if r.Intn(3) > 0 {
			d.OSPF = append(d.OSPF, api.OSPF{VRF: v, ID: anyAddr(r), From: redists(api.FromBGP, 1)})
		}
		if r.Intn(3) == 0 {
			continue
		}
		b := api.BGP{VRF: v, AS: uint32(between(r, 1, math.MaxUint32)), ID: anyAddr(r), From: redists(api.FromOSPF, 0)}
		b.Nets = some(r, 3, func(k int) api.Prefix { return api.Prefix{Addr: api.Addr(k) << 24, Bits: between(r, 8, 32)} })
		b.Peers = some(r, 3, func(k int) api.Peer {
			return api.Peer{Addr: api.Addr(i + k*5%7 + 1), AS: uint32(between(r, 1, math.MaxUint32)), In: policy(), Out: policy(), Client: r.Intn(2) == 0, Self: r.Intn(2) == 0}
		})
		d.BGP = slices.Insert(d.BGP, r.Intn(len(d.BGP)+1), b)
	}
}

func anyClause(r *rand.Rand, d *api.Device, seq int) api.Clause {
	c := api.Clause{Seq: seq, Action: uint8(r.Intn(3)), Tag: between(r, -1, top), Metric: between(r, -1, top), Through: between(r, 1, math.MaxUint32), SetMetric: between(r, -1, top), SetPref: between(r, -1, top), SetTag: between(r, -1, top)}
	c.Prefixes = oneOf(r, d.Prefixes, func(l api.PrefixList) string { return l.Name })
	c.Communities = oneOf(r, d.Communities, func(l api.CommunityList) string { return l.Name })
	if r.Intn(2) == 0 {
		c.Through = -1
	}
	c.SetComm, c.Prepend = anyNumbers(r, 0, 3), anyNumbers(r, 0, 3)
	c.Add = len(c.SetComm) > 0 && r.Intn(2) == 0
	if r.Intn(2) == 0 {
		c.SetHop = anyAddr(r)
	}
	return c
}

// apart tells whether no two of a list are the same.
func apart[T any](l []T) bool {
	seen := map[string]bool{}
	for _, x := range l {
		seen[fmt.Sprint(x)] = true
	}
	return len(seen) == len(l)
}

// canBeWritten tells whether a device can be written, if it is not too much for a text.
func canBeWritten(d api.Device) bool {
	_, e := model.Check(d)
	can := e == api.OK && d.Kind == api.Nested && apart(d.Statics) && apart(d.Rewrites) && !slices.Contains(d.VRFs, "apply-groups")
	for _, i := range d.Ifaces {
		can = can && i.Name != "apply-groups"
	}
	for _, p := range d.Policies {
		for i, c := range p.Clauses {
			can = can && c.Jump == 0 && c.Seq == 10*(i+1)
		}
	}
	for _, l := range d.Prefixes {
		can = can && apart(l.Entries)
	}
	for _, l := range d.Communities {
		can = can && apart(l.Members)
		for _, m := range l.Members {
			can = can && len(m.All) > 0
		}
	}
	for _, r := range d.Rewrites {
		can = can && r.Filter != ""
	}
	var from [][]api.Redist
	for _, o := range d.OSPF {
		from = append(from, o.From)
	}
	for _, b := range d.BGP {
		from = append(from, b.From)
	}
	for _, l := range from {
		can = can && apart(l)
		for _, x := range l {
			can = can && slices.Contains([]uint8{1, 2, 4, 8}, x.From)
		}
	}
	return can
}

// change changes something of a device, so that it may be that it can't be written any more.
func change(r *rand.Rand, d *api.Device) {
	at := func(n int) int { return r.Intn(max(1, n)) }
	switch n := r.Intn(16); {
	case n == 0:
		d.Kind = uint8(r.Intn(4))
	case n == 1 && len(d.Policies) > 0 && len(d.Policies[0].Clauses) > 0:
		c := &d.Policies[0].Clauses[at(len(d.Policies[0].Clauses))]
		c.Seq += between(r, -1, 1)
	case n == 2 && len(d.Policies) > 0 && len(d.Policies[0].Clauses) > 0:
		d.Policies[0].Clauses[0].Jump = between(r, 0, 20)
	case n == 3 && len(d.Prefixes) > 0 && len(d.Prefixes[0].Entries) > 0:
		l := &d.Prefixes[0].Entries
		(*l)[at(len(*l))].Permit = r.Intn(2) == 0
		*l = append(*l, (*l)[at(len(*l))])
	case n == 4 && len(d.Communities) > 0 && len(d.Communities[0].Members) > 0:
		m := &d.Communities[0].Members[0]
		m.All = m.All[:r.Intn(len(m.All)+1)]
	case n == 5 && len(d.Communities) > 0 && len(d.Communities[0].Members) > 0:
		m := d.Communities[0].Members[0]
		m.All = slices.Clone(m.All)
		if r.Intn(2) == 0 {
			m.All = append(m.All, m.All[0])
		}
		d.Communities[0].Members = append(d.Communities[0].Members, m)
	case n == 6 && len(d.Rewrites) > 0:
		d.Rewrites[at(len(d.Rewrites))].Filter = pick(r, "", "f0", "f1")
	case n == 7 && len(d.Rewrites) > 0:
		d.Rewrites = append(d.Rewrites, d.Rewrites[0])
		d.Rewrites[0].Dest = r.Intn(2) == 0
	case n == 8 && len(d.Statics) > 0:
		d.Statics = append(d.Statics, d.Statics[0])
		d.Statics[0].Tag = r.Intn(2) * d.Statics[0].Tag
	case n == 9 && len(d.OSPF) > 0 && len(d.OSPF[0].From) > 0:
		d.OSPF[0].From[0].From = uint8(r.Intn(16))
	case n == 10 && len(d.OSPF) > 0 && len(d.OSPF[0].From) > 0:
		d.OSPF[0].From = append(d.OSPF[0].From, d.OSPF[0].From[0])
		d.OSPF[0].From[0].Type = uint8(1 + r.Intn(2))
	case n == 11 && len(d.BGP) > 0 && len(d.BGP[0].From) > 0:
		d.BGP[0].From[0].From = uint8(r.Intn(16))
	case n == 12 && len(d.BGP) > 0 && len(d.BGP[0].From) > 0:
		d.BGP[0].From = append(d.BGP[0].From, d.BGP[0].From[0])
		d.BGP[0].From[0].Metric = between(r, -1, 3)
	case n == 13 && len(d.Ifaces) > 0:
		d.Ifaces[at(len(d.Ifaces))].Name = pick(r, "apply-groups", "groups", "apply-group")
	default:
		d.VRFs = append(d.VRFs, pick(r, "apply-groups", "groups", "apply-groups/"))
	}
}
