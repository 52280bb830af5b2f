package flat

import (
	"strconv"

	"waymark/addr"
	"waymark/api"
)

func (w *writer) vrf(name string) { w.line("vrf " + name) }

func (w *writer) iface(i api.Iface) {
	w.line("interface " + i.Name)
	w.name(" vrf", i.VRF, "")
	w.flag(" address"+masked(api.Prefix{Addr: i.Addr, Bits: i.Bits}), i.Addr != 0)
	w.name(" filter", i.In, " in")
	w.name(" filter", i.Out, " out")
	w.flag(" nat inside", i.Side == api.Inside)
	w.flag(" nat outside", i.Side == api.Outside)
	w.number(" ospf area", i.Area, none)
	w.number(" ospf cost", i.Cost, anyCost)
	w.flag(" ospf passive", i.Passive)
	w.flag(" shutdown", i.Down)
}

func (w *writer) filter(f api.Filter) {
	w.line("ip filter " + f.Name)
	for _, r := range f.Rules {
		w.line(permission(r.Permit) + proto(r.Proto) + ends(r.Src) + ports(r.SrcPorts) + ends(r.Dst) + ports(r.DstPorts))
	}
}

// proto is what a rule says of a protocol.
func proto(n int) string {
	if n == none {
		return " any"
	}
	return " " + strconv.Itoa(n)
}

// ends is what a rule says of addresses.
func ends(p api.Prefix) string {
	switch p.Bits {
	case 0:
		return " any"
	case topBits:
		return " host " + addr.Text(p.Addr)
	}
	mask, _ := addr.Mask(p.Bits)
	return " " + addr.Text(p.Addr) + " " + addr.Text(^mask)
}

// ports is what a rule says of ports.
func ports(s api.Span) string {
	switch {
	case s == allPorts():
		return ""
	case s.Lo == s.Hi:
		return " eq" + numbers([]uint32{s.Lo})
	}
	return " range" + numbers([]uint32{s.Lo, s.Hi})
}

func (w *writer) rewrite(r api.Rewrite) {
	end := "source"
	if r.Dest {
		end = "destination"
	}
	w.line("ip nat " + end + " filter " + r.Filter + " to " + addr.Text(r.To))
}

func (w *writer) static(s api.Static) {
	to := " discard"
	if !s.Discard {
		to = " " + addr.Text(s.Via)
	}
	w.line("ip route" + named("vrf", s.VRF) + masked(s.Prefix) + to + option("distance", s.Dist, anyDist) + option("tag", s.Tag, 0))
}

func (w *writer) prefixes(l api.PrefixList) {
	for _, x := range l.Entries {
		w.line("ip prefix-list " + l.Name + permission(x.Permit) + " " + addr.PrefixText(x.Prefix) + lengths(x))
	}
}

// lengths is what an entry says of how long prefixes are.
func lengths(x api.Entry) string {
	switch {
	case x.Ge == x.Prefix.Bits && x.Le == x.Ge:
		return ""
	case x.Le == topBits:
		return option("ge", x.Ge, none)
	}
	return option("ge", x.Ge, x.Prefix.Bits) + option("le", x.Le, none)
}

func (w *writer) communities(l api.CommunityList) {
	for _, x := range l.Members {
		w.line("ip community-list " + l.Name + permission(x.Permit) + communityTexts(x.All))
	}
}

func (w *writer) policy(p api.Policy) {
	for _, c := range p.Clauses {
		w.line("route-map " + p.Name + " " + actions()[c.Action] + " " + strconv.Itoa(c.Seq))
		w.asked(c)
		w.set(c)
		w.number(" continue", c.Jump, 0)
	}
}

// asked writes what a clause asks.
func (w *writer) asked(c api.Clause) {
	w.name(" match prefix-list", c.Prefixes, "")
	w.name(" match community-list", c.Communities, "")
	w.number(" match tag", c.Tag, none)
	w.number(" match metric", c.Metric, none)
	w.number(" match as", c.Through, none)
}

// set writes what a clause sets.
func (w *writer) set(c api.Clause) {
	w.number(" set metric", c.SetMetric, none)
	w.number(" set preference", c.SetPref, none)
	w.number(" set tag", c.SetTag, none)
	add := ""
	if c.Add {
		add = " add"
	}
	w.flag(" set community"+add+communityTexts(c.SetComm), len(c.SetComm) > 0)
	w.flag(" set prepend"+numbers(c.Prepend), len(c.Prepend) > 0)
	w.flag(" set next-hop "+addr.Text(c.SetHop), c.SetHop != 0)
}

func (w *writer) ospf(o api.OSPF) {
	w.line("router ospf" + named("vrf", o.VRF))
	w.line(" router-id " + addr.Text(o.ID))
	each(o.From, w.redist)
}

func (w *writer) bgp(b api.BGP) {
	w.line("router bgp" + numbers([]uint32{b.AS}) + named("vrf", b.VRF))
	w.line(" router-id " + addr.Text(b.ID))
	for _, p := range b.Nets {
		w.line(" network" + masked(p))
	}
	each(b.Peers, w.peer)
	each(b.From, w.redist)
}

func (w *writer) peer(p api.Peer) {
	ahead := " neighbor " + addr.Text(p.Addr)
	w.line(ahead + " as" + numbers([]uint32{p.AS}))
	w.name(ahead+" route-map", p.In, " in")
	w.name(ahead+" route-map", p.Out, " out")
	w.flag(ahead+" client", p.Client)
	w.flag(ahead+" next-hop-self", p.Self)
}

// redist writes what is taken over. Of BGP it has no type, of OSPF the other one where none is said.
func (w *writer) redist(r api.Redist) {
	kind := ""
	if r.Type == 1 {
		kind = " type 1"
	}
	w.line(" redistribute " + sideWord(r.From) + option("metric", r.Metric, none) + kind + named("route-map", r.Policy))
}
