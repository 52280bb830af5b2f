package model

import (
	"cmp"
	"slices"

	"waymark/addr"
	"waymark/api"
)

// Form is a device's form.
func Form(d api.Device) api.Device {
	form := Twin(d)
	slices.Sort(form.VRFs)
	sortByName(form.Ifaces, ifaceName)
	sortByName(form.Filters, filterName)
	sortByName(form.Prefixes, prefixesName)
	sortByName(form.Communities, communitiesName)
	sortByName(form.Policies, policyName)
	slices.SortFunc(form.Statics, cmpStatics)
	return form
}

// cmpStatics is the order of routes that are written down.
func cmpStatics(a, b api.Static) int {
	return cmp.Or(
		cmp.Compare(a.VRF, b.VRF),
		addr.Cmp(a.Prefix, b.Prefix),
		cmp.Compare(a.Via, b.Via),
		cmpFlags(a.Discard, b.Discard),
		cmp.Compare(a.Dist, b.Dist),
		cmp.Compare(a.Tag, b.Tag),
	)
}

// cmpFlags is the order of flags: false ahead of true.
func cmpFlags(a, b bool) int {
	switch {
	case a == b:
		return 0
	case b:
		return -1
	}
	return 1
}

// Twin is a device with lists of its own.
func Twin(d api.Device) api.Device {
	d.VRFs = own(d.VRFs)
	d.Ifaces = own(d.Ifaces)
	d.Filters = twins(d.Filters, filterTwin)
	d.Rewrites = own(d.Rewrites)
	d.Statics = own(d.Statics)
	d.Prefixes = twins(d.Prefixes, prefixesTwin)
	d.Communities = twins(d.Communities, communitiesTwin)
	d.Policies = twins(d.Policies, policyTwin)
	d.OSPF = twins(d.OSPF, ospfTwin)
	d.BGP = twins(d.BGP, bgpTwin)
	return d
}

// own is a list in new memory.
func own[T any](list []T) []T { return append([]T(nil), list...) }

// twins are the things of a list, each made by a function that gives it lists of its own.
func twins[T any](list []T, twin func(T) T) []T {
	l := own(list)
	for i, x := range l {
		l[i] = twin(x)
	}
	return l
}

func filterTwin(f api.Filter) api.Filter {
	f.Rules = own(f.Rules)
	return f
}

func prefixesTwin(l api.PrefixList) api.PrefixList {
	l.Entries = own(l.Entries)
	return l
}

func communitiesTwin(l api.CommunityList) api.CommunityList {
	l.Members = twins(l.Members, memberTwin)
	return l
}

func memberTwin(m api.Member) api.Member {
	m.All = own(m.All)
	return m
}

func policyTwin(p api.Policy) api.Policy {
	p.Clauses = twins(p.Clauses, clauseTwin)
	return p
}

func clauseTwin(c api.Clause) api.Clause {
	c.SetComm = own(c.SetComm)
	c.Prepend = own(c.Prepend)
	return c
}

func ospfTwin(o api.OSPF) api.OSPF {
	o.From = own(o.From)
	return o
}

func bgpTwin(b api.BGP) api.BGP {
	b.Nets = own(b.Nets)
	b.Peers = own(b.Peers)
	b.From = own(b.From)
	return b
}
