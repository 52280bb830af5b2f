package nested

import (
	"math/bits"
	"slices"

	"waymark/api"
	"waymark/model"
)

// unspeakable is a word with which a leaf or a block applies groups, where it should be a name.
const unspeakable = "apply-groups"

// writable tells whether the language has words for a device.
func writable(d api.Device) bool {
	_, e := model.Check(d)
	return e == api.OK && d.Kind == api.Nested &&
		every(d.VRFs, func(name string) bool { return name != unspeakable }) &&
		every(d.Ifaces, func(i api.Iface) bool { return i.Name != unspeakable }) &&
		every(d.Rewrites, func(r api.Rewrite) bool { return r.Filter != "" }) && unlike(d.Rewrites, rewrite) &&
		unlike(d.Statics, static) &&
		every(d.Prefixes, func(l api.PrefixList) bool { return unlike(l.Entries, entry) }) &&
		every(d.Communities, membersWritable) &&
		every(d.Policies, policyWritable) &&
		every(d.OSPF, func(o api.OSPF) bool { return redistsWritable(o.From) }) &&
		every(d.BGP, func(b api.BGP) bool { return redistsWritable(b.From) })
}

// every tells whether something holds of each thing of a list.
func every[T any](list []T, holds func(T) bool) bool {
	return !slices.ContainsFunc(list, func(x T) bool { return !holds(x) })
}

// unlike tells whether no two things of a list have the same text: they would be read as one.
func unlike[T any](list []T, text func(T) string) bool {
	said := set{}
	return every(list, func(x T) bool {
		s := text(x)
		twice := said.has(s)
		said[s] = struct{}{}
		return !twice
	})
}

func membersWritable(l api.CommunityList) bool {
	return every(l.Members, func(m api.Member) bool { return len(m.All) > 0 }) && unlike(l.Members, member)
}

// policyWritable tells whether a policy's clauses are the terms that the language has.
func policyWritable(p api.Policy) bool {
	seq := 0
	return every(p.Clauses, func(c api.Clause) bool {
		seq += seqStep
		return c.Seq == seq && c.Jump == 0
	})
}

func redistsWritable(l []api.Redist) bool {
	return every(l, func(r api.Redist) bool { return bits.OnesCount8(r.From) == 1 }) && unlike(l, redist)
}
