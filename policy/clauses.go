package policy

import (
	"slices"

	"waymark/api"
	"waymark/lists"
)

// unset is what a clause has where it asks, or sets, nothing.
const unset = -1

// Fits tells whether a clause fits a subject.
func Fits(d api.Device, c api.Clause, s api.Subject) bool {
	for _, holds := range asked(d, c) {
		if !holds(s) {
			return false
		}
	}
	return true
}

// asked is what a clause asks of a subject, the quickest first.
func asked(d api.Device, c api.Clause) []func(api.Subject) bool {
	var list []func(api.Subject) bool
	if c.Tag != unset {
		list = append(list, func(s api.Subject) bool { return s.Tag == c.Tag })
	}
	if c.Metric != unset {
		list = append(list, func(s api.Subject) bool { return s.Metric == c.Metric })
	}
	if c.Prefixes != "" {
		list = append(list, func(s api.Subject) bool { return permits(d, c.Prefixes, s.Prefix) })
	}
	if c.Through != unset {
		list = append(list, func(s api.Subject) bool { return stands(c.Through, s.Path) })
	}
	if c.Communities != "" {
		list = append(list, func(s api.Subject) bool { return allows(d, c.Communities, s.Comm) })
	}
	return list
}

// permits tells whether a device has a prefix list of a name that permits a prefix.
func permits(d api.Device, name string, p api.Prefix) bool {
	at := slices.IndexFunc(d.Prefixes, func(l api.PrefixList) bool { return l.Name == name })
	return at >= 0 && lists.Permits(d.Prefixes[at], p)
}

// allows tells whether a device has a community list of a name that permits communities.
func allows(d api.Device, name string, comm []uint32) bool {
	at := slices.IndexFunc(d.Communities, func(l api.CommunityList) bool { return l.Name == name })
	return at >= 0 && lists.Allows(d.Communities[at], comm)
}

// stands tells whether a number stands in a path.
func stands(number int, path []uint32) bool {
	return slices.ContainsFunc(path, func(as uint32) bool { return int64(as) == int64(number) })
}

// Set is a subject with what a clause sets.
func Set(c api.Clause, s api.Subject) api.Subject {
	return own(set(c, s))
}

// set is a subject with what a clause sets; lists that it leaves are those of the subject.
func set(c api.Clause, s api.Subject) api.Subject {
	if c.SetMetric != unset {
		s.Metric = c.SetMetric
	}
	if c.SetPref != unset {
		s.Pref = c.SetPref
	}
	if c.SetTag != unset {
		s.Tag = c.SetTag
	}
	if c.SetHop != 0 {
		s.Hop = c.SetHop
	}
	if len(c.SetComm) > 0 && c.Add {
		s.Comm = lists.Join(s.Comm, c.SetComm)
	} else if len(c.SetComm) > 0 {
		s.Comm = lists.Normal(c.SetComm)
	}
	if len(c.Prepend) > 0 {
		s.Path = sum(c.Prepend, s.Path)
	}
	return s
}

// own is a subject with lists of its own.
func own(s api.Subject) api.Subject {
	s.Path = sum(s.Path, nil)
	s.Comm = sum(s.Comm, nil)
	return s
}

// sum is the one list, and the other one behind it, in memory of its own.
func sum(a, b []uint32) []uint32 {
	list := make([]uint32, len(a), len(a)+len(b))
	copy(list, a)
	return append(list, b...)
}

// Same tells whether two subjects are the same.
func Same(a, b api.Subject) bool {
	return a.Prefix == b.Prefix && a.Metric == b.Metric && a.Tag == b.Tag && a.Pref == b.Pref && a.Hop == b.Hop &&
		slices.Equal(a.Path, b.Path) && slices.Equal(a.Comm, b.Comm)
}
