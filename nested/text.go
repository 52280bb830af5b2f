package nested

import (
	"strings"

	"waymark/addr"
	"waymark/api"
	"waymark/lists"
)

// text says a device that has words, without a blank that need not be.
func text(d api.Device) string {
	return part("system", leaf(named("host-name", d.Name))) +
		part("instances", all(d.VRFs, vrf)) +
		part("interfaces", all(d.Ifaces, iface)) +
		part("firewall", all(d.Filters, filter)) +
		part("nat", all(d.Rewrites, rewrite)) +
		part("routes", all(d.Statics, static)) +
		part("policy", all(d.Prefixes, prefixes)+all(d.Communities, communities)+all(d.Policies, policy)) +
		part("protocols", all(d.OSPF, ospf)+all(d.BGP, bgp))
}

// all is the texts of a list's things, up to where they are too long whatever follows.
func all[T any](list []T, text func(T) string) string {
	var b strings.Builder
	for _, x := range list {
		if b.Len() > api.MaxText {
			break
		}
		b.WriteString(text(x))
	}
	return b.String()
}

func vrf(name string) string { return name + ";" }

func iface(i api.Iface) string {
	return block(i.Name, leaf(named("instance", i.VRF))+
		leaf(flag("address "+addr.PrefixText(api.Prefix{Addr: i.Addr, Bits: i.Bits}), i.Addr != 0))+
		leaf(named("filter input", i.In))+
		leaf(named("filter output", i.Out))+
		leaf(flag("nat inside", i.Side == api.Inside))+
		leaf(flag("nat outside", i.Side == api.Outside))+
		leaf(number("area", i.Area, none))+
		leaf(number("metric", i.Cost, anyCost))+
		leaf(flag("passive", i.Passive))+
		leaf(flag("disable", i.Down)))
}

func filter(f api.Filter) string {
	return block("filter "+f.Name, terms(f.Rules, func(r api.Rule) string {
		return part("from", fits(r)) + leaf(" then "+verdict(r.Permit, "accept", "discard"))
	}))
}

// fits is what headers must have to fit a rule.
func fits(r api.Rule) string {
	return leaf(number("protocol", r.Proto, none)) +
		leaf(flag("source "+addr.PrefixText(r.Src), r.Src.Bits > 0)) +
		leaf(flag("destination "+addr.PrefixText(r.Dst), r.Dst.Bits > 0)) +
		leaf(ports("source-port", r.SrcPorts)) +
		leaf(ports("destination-port", r.DstPorts))
}

func rewrite(r api.Rewrite) string {
	return leaf(named(verdict(r.Dest, "destination", "source"), r.Filter) + " to " + addr.Text(r.To))
}

func static(s api.Static) string {
	to := " discard"
	if !s.Discard {
		to = " next-hop " + addr.Text(s.Via)
	}
	return leaf(" route " + addr.PrefixText(s.Prefix) + to + named("instance", s.VRF) + number("preference", s.Dist, anyDist) + number("tag", s.Tag, 0))
}

func prefixes(l api.PrefixList) string {
	return block("prefix-list "+l.Name, all(l.Entries, entry))
}

func entry(x api.Entry) string {
	upto := number("upto", x.Le, x.Prefix.Bits)
	from := number("from", x.Ge, x.Prefix.Bits)
	if from != "" && x.Le == topBits {
		upto = ""
	}
	return leaf(" " + addr.PrefixText(x.Prefix) + upto + from + flag("reject", !x.Permit))
}

func communities(l api.CommunityList) string {
	return block("community "+l.Name, all(l.Members, member))
}

func member(m api.Member) string {
	return leaf(listed(verdict(m.Permit, "members", "reject"), m.All, lists.Text))
}

func policy(p api.Policy) string {
	return block("statement "+p.Name, leaf(flag("default reject", !p.Default))+terms(p.Clauses, func(c api.Clause) string {
		return part("from", asks(c)) + part("then", sets(c))
	}))
}

// asks is what a clause asks.
func asks(c api.Clause) string {
	return leaf(named("prefix-list", c.Prefixes)) +
		leaf(named("community", c.Communities)) +
		leaf(number("tag", c.Tag, none)) +
		leaf(number("metric", c.Metric, none)) +
		leaf(number("as", c.Through, none))
}

// sets is what a clause does and sets.
func sets(c api.Clause) string {
	return leaf(number("metric", c.SetMetric, none)) +
		leaf(number("preference", c.SetPref, none)) +
		leaf(number("tag", c.SetTag, none)) +
		leaf(listed("community "+verdict(c.Add, "add", "set"), c.SetComm, lists.Text)) +
		leaf(listed("prepend", c.Prepend, digits)) +
		leaf(flag("next-hop "+addr.Text(c.SetHop), c.SetHop != 0)) +
		leaf(flag(actions()[c.Action], c.Action != api.Next))
}

func ospf(o api.OSPF) string {
	return block("ospf"+flag(o.VRF, o.VRF != ""), leaf(" router-id "+addr.Text(o.ID))+all(o.From, redist))
}

func bgp(b api.BGP) string {
	return block("bgp"+flag(b.VRF, b.VRF != ""), leaf(" router-id "+addr.Text(b.ID))+
		leaf(" local-as "+digits(b.AS))+
		all(b.Nets, func(p api.Prefix) string { return leaf(" network " + addr.PrefixText(p)) })+
		all(b.Peers, peer)+
		all(b.From, redist))
}

func peer(p api.Peer) string {
	return block("neighbor "+addr.Text(p.Addr), leaf(" peer-as "+digits(p.AS))+
		leaf(named("import", p.In))+
		leaf(named("export", p.Out))+
		leaf(flag("client", p.Client))+
		leaf(flag("next-hop-self", p.Self)))
}

// redist is what is taken over. Of BGP it has no type, of OSPF the other one where none is said.
func redist(r api.Redist) string {
	return leaf(" export " + sideWord(r.From) + number("metric", r.Metric, none) + flag("type 1", r.Type == 1) + named("policy", r.Policy))
}
