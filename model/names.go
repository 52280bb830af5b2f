package model

import (
	"cmp"
	"slices"

	"waymark/api"
	"waymark/routes"
)

// names are those that things of one kind have.
type names map[string]struct{}

// has tells whether a thing is named that is there, or none is.
func (n names) has(name string) bool {
	_, is := n[name]
	return is || name == ""
}

// namesOf are the names of some things.
func namesOf[T any](list []T, name func(T) string) names {
	n := names{}
	for _, x := range list {
		n[name(x)] = struct{}{}
	}
	return n
}

// sortByName puts things in order by their names; those of one name stay in theirs.
func sortByName[T any](list []T, name func(T) string) {
	slices.SortStableFunc(list, func(a, b T) int { return cmp.Compare(name(a), name(b)) })
}

// unlike makes what tells of keys, one behind the other, whether each is unlike all ahead of it.
func unlike[K comparable]() func(K) bool {
	seen := map[K]struct{}{}
	return func(k K) bool {
		_, is := seen[k]
		seen[k] = struct{}{}
		return !is
	}
}

// isName tells whether a text is a name: a route's interface is one, or none.
func isName(s string) bool {
	_, e := routes.Text(api.Route{From: api.Connected, Iface: s})
	return e == api.OK && s != ""
}

// A generic function can't ask things for a field: each kind of them has a function that tells the name.

func vrfName(v string) string { return v }

func ifaceName(x api.Iface) string { return x.Name }

func filterName(f api.Filter) string { return f.Name }

func prefixesName(l api.PrefixList) string { return l.Name }

func communitiesName(l api.CommunityList) string { return l.Name }

func policyName(p api.Policy) string { return p.Name }

func deviceName(d api.Device) string { return d.Name }
