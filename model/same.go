package model

import (
	"slices"

	"waymark/api"
)

// Same tells whether two devices have one form.
func Same(a, b api.Device) bool {
	a, b = Form(a), Form(b)
	return a.Name == b.Name && a.Kind == b.Kind &&
		slices.Equal(a.VRFs, b.VRFs) &&
		slices.Equal(a.Ifaces, b.Ifaces) &&
		slices.EqualFunc(a.Filters, b.Filters, sameFilters) &&
		slices.Equal(a.Rewrites, b.Rewrites) &&
		slices.Equal(a.Statics, b.Statics) &&
		slices.EqualFunc(a.Prefixes, b.Prefixes, samePrefixes) &&
		slices.EqualFunc(a.Communities, b.Communities, sameCommunities) &&
		slices.EqualFunc(a.Policies, b.Policies, samePolicies) &&
		slices.EqualFunc(a.OSPF, b.OSPF, sameOSPF) &&
		slices.EqualFunc(a.BGP, b.BGP, sameBGP)
}

func sameFilters(a, b api.Filter) bool {
	return a.Name == b.Name && slices.Equal(a.Rules, b.Rules)
}

func samePrefixes(a, b api.PrefixList) bool {
	return a.Name == b.Name && slices.Equal(a.Entries, b.Entries)
}

func sameCommunities(a, b api.CommunityList) bool {
	return a.Name == b.Name && slices.EqualFunc(a.Members, b.Members, sameMembers)
}

func sameMembers(a, b api.Member) bool {
	return a.Permit == b.Permit && slices.Equal(a.All, b.All)
}

func samePolicies(a, b api.Policy) bool {
	return a.Name == b.Name && a.Default == b.Default && slices.EqualFunc(a.Clauses, b.Clauses, sameClauses)
}

func sameClauses(a, b api.Clause) bool {
	return a.Seq == b.Seq && a.Action == b.Action &&
		a.Prefixes == b.Prefixes && a.Communities == b.Communities &&
		a.Tag == b.Tag && a.Metric == b.Metric && a.Through == b.Through &&
		a.SetMetric == b.SetMetric && a.SetPref == b.SetPref && a.SetTag == b.SetTag &&
		slices.Equal(a.SetComm, b.SetComm) && a.Add == b.Add &&
		slices.Equal(a.Prepend, b.Prepend) && a.SetHop == b.SetHop && a.Jump == b.Jump
}

func sameOSPF(a, b api.OSPF) bool {
	return a.VRF == b.VRF && a.ID == b.ID && slices.Equal(a.From, b.From)
}

func sameBGP(a, b api.BGP) bool {
	return a.VRF == b.VRF && a.AS == b.AS && a.ID == b.ID &&
		slices.Equal(a.Nets, b.Nets) && slices.Equal(a.Peers, b.Peers) && slices.Equal(a.From, b.From)
}
