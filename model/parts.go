package model

import (
	"strconv"

	"waymark/api"
	"waymark/filter"
)

// look tells of a part's things, one behind the other, whether each may be but for the names of other things in it, and whether these are there.
type look[T any] func(T) (may, there bool)

// parts tell, each when it is asked, whether a part of a device may be, and what of it may not.
func parts(d api.Device) []func() (string, api.Errno) {
	vrfs, filters := namesOf(d.VRFs, vrfName), namesOf(d.Filters, filterName)
	prefixes, communities := namesOf(d.Prefixes, prefixesName), namesOf(d.Communities, communitiesName)
	policies := namesOf(d.Policies, policyName)
	return []func() (string, api.Errno){
		whole("name", isName(d.Name)),
		whole("kind", d.Kind == api.Flat || d.Kind == api.Nested),
		part("vrf", d.VRFs, api.MaxRules, named(vrfName, anyVRF)),
		part("iface", d.Ifaces, api.MaxIfaces, ifaceLook(vrfs, filters)),
		part("filter", d.Filters, api.MaxRules, named(filterName, filterMay)),
		part("rewrite", d.Rewrites, api.MaxRules, rewriteLook(filters)),
		part("static", d.Statics, api.MaxRules, staticLook(vrfs)),
		part("prefixes", d.Prefixes, api.MaxRules, named(prefixesName, prefixesMay)),
		part("communities", d.Communities, api.MaxRules, named(communitiesName, communitiesMay)),
		part("policy", d.Policies, api.MaxRules, policyLook(prefixes, communities)),
		part("ospf", d.OSPF, api.MaxRules, ospfLook(vrfs, policies)),
		part("bgp", d.BGP, api.MaxRules, bgpLook(vrfs, policies)),
	}
}

// whole is a part that is one thing.
func whole(word string, may bool) func() (string, api.Errno) {
	return func() (string, api.Errno) {
		if !may {
			return word, api.ErrModel
		}
		return "", api.OK
	}
}

// part is one of many things, of which each is looked at in turn.
func part[T any](word string, list []T, most int, at look[T]) func() (string, api.Errno) {
	fails := func(i int, e api.Errno) (string, api.Errno) { return word + " " + strconv.Itoa(i), e }
	return func() (string, api.Errno) {
		if len(list) > most {
			return fails(most, api.ErrModel)
		}
		for i, x := range list {
			may, there := at(x)
			switch {
			case !may:
				return fails(i, api.ErrModel)
			case !there:
				return fails(i, api.ErrRef)
			}
		}
		return "", api.OK
	}
}

// named looks at things that have a name of their own, and name no others.
func named[T any](name func(T) string, mayBe func(T) bool) look[T] {
	first := unlike[string]()
	return func(x T) (may, there bool) {
		return isName(name(x)) && first(name(x)) && mayBe(x), true
	}
}

// anyVRF is what is asked of a VRF besides its name: nothing.
func anyVRF(string) bool { return true }

// filterMay tells whether a filter may be, but for its name.
func filterMay(f api.Filter) bool { return filter.Check(f) == api.OK }

// within tells whether a number is one of those from a least to a greatest one.
func within(n, least, most int) bool { return least <= n && n <= most }

// every tells whether all of a list are so.
func every[T any](list []T, is func(T) bool) bool {
	for _, x := range list {
		if !is(x) {
			return false
		}
	}
	return true
}

// few tells whether a list has no more than it may have, and all of it are so.
func few[T any](list []T, most int, is func(T) bool) bool {
	return len(list) <= most && every(list, is)
}
