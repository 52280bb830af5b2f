package flat

import (
	"math/bits"
	"slices"

	"waymark/api"
	"waymark/model"
)

// writable tells whether the language has words for a device.
func writable(d api.Device) bool {
	_, e := model.Check(d)
	return e == api.OK && d.Kind == api.Flat &&
		all(d.Policies, policyWritable) &&
		all(d.Prefixes, func(l api.PrefixList) bool { return len(l.Entries) > 0 }) &&
		all(d.Communities, membersWritable) &&
		all(d.Rewrites, func(r api.Rewrite) bool { return r.Filter != "" }) &&
		all(d.Filters, func(f api.Filter) bool { return all(f.Rules, ruleWritable) }) &&
		all(d.OSPF, func(o api.OSPF) bool { return all(o.From, redistWritable) }) &&
		all(d.BGP, func(b api.BGP) bool { return all(b.From, redistWritable) })
}

// all tells whether something holds of each thing of a list.
func all[T any](list []T, holds func(T) bool) bool {
	return !slices.ContainsFunc(list, func(x T) bool { return !holds(x) })
}

func policyWritable(p api.Policy) bool { return !p.Default && len(p.Clauses) > 0 }

func membersWritable(l api.CommunityList) bool {
	return len(l.Members) > 0 && all(l.Members, func(m api.Member) bool { return len(m.All) > 0 })
}

func ruleWritable(r api.Rule) bool {
	return ported(r.Proto) || r.SrcPorts == allPorts() && r.DstPorts == allPorts()
}

func redistWritable(r api.Redist) bool { return bits.OnesCount8(r.From) == 1 }
