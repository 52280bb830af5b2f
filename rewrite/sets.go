package rewrite

import (
	"waymark/api"
	"waymark/filter"
	"waymark/rel"
)

// nothing is the set of no headers, everything that of all, in each space.
const (
	nothing    = 0
	everything = 1
)

// Relation leads from each header to what comes of it.
func Relation(s *rel.Space, l []api.Rewrite, filters []api.Filter, dest bool) (int, api.Errno) {
	if e := check(s, l, filters); e != api.OK {
		return 0, e
	}
	shares, left, e := parted(s, l, filters, dest, everything)
	if e != api.OK {
		return 0, e
	}
	stay, e := kept(s, left)
	if e != api.OK {
		return 0, e
	}
	return joined(s, dest, shares, stay, s.Where)
}

// Image is what comes of the headers of a set.
func Image(s *rel.Space, l []api.Rewrite, filters []api.Filter, dest bool, set int) (int, api.Errno) {
	if e := checkSet(s, l, filters, set); e != api.OK {
		return 0, e
	}
	shares, left, e := parted(s, l, filters, dest, set)
	if e != api.OK {
		return 0, e
	}
	return joined(s, dest, shares, left, s.Image)
}

// Preimage are the headers of which one of a set comes.
func Preimage(s *rel.Space, l []api.Rewrite, filters []api.Filter, dest bool, set int) (int, api.Errno) {
	if e := checkSet(s, l, filters, set); e != api.OK {
		return 0, e
	}
	shares, left, e := parted(s, l, filters, dest, everything)
	if e != api.OK {
		return 0, e
	}
	stay, e := s.And(left, set)
	if e != api.OK {
		return 0, e
	}
	return joined(s, dest, shares, stay, func(put, among int) (int, api.Errno) {
		before, e := s.Preimage(put, set)
		if e != api.OK {
			return 0, e
		}
		return s.And(before, among)
	})
}

// check tells whether there is a space, and whether the filters of all rewrites are there, and may be.
func check(s *rel.Space, l []api.Rewrite, filters []api.Filter) api.Errno {
	if s == nil {
		return api.ErrNil
	}
	return Check(l, filters)
}

// checkSet tells beside that whether a number is a set of the space.
func checkSet(s *rel.Space, l []api.Rewrite, filters []api.Filter, set int) api.Errno {
	if e := check(s, l, filters); e != api.OK {
		return e
	}
	_, e := s.Has(set, api.Header{})
	return e
}

// share is the headers to which a rewrite applies, and the address that it puts into them.
type share struct {
	to    api.Addr
	among int
}

// parted parts a set into what each rewrite of a kind applies to, if there is anything, and what none does. Rewrites to which nothing is left are not asked for: they should take no room.
func parted(s *rel.Space, l []api.Rewrite, filters []api.Filter, dest bool, set int) ([]share, int, api.Errno) {
	var shares []share
	left, e := set, api.OK
	each(l, filters, dest, func(i int, f api.Filter) bool {
		if left == nothing {
			return false
		}
		var among int
		among, left, e = split(s, f, left)
		if among != nothing {
			shares = append(shares, share{l[i].To, among})
		}
		return e == api.OK
	})
	return shares, left, e
}

// split parts a set into what a filter permits, and what it denies.
func split(s *rel.Space, f api.Filter, set int) (permitted, denied int, e api.Errno) {
	all, e := filter.Set(s, f)
	if e != api.OK {
		return 0, 0, e
	}
	if permitted, e = s.And(all, set); e != api.OK {
		return 0, 0, e
	}
	if denied, e = s.Less(set, permitted); e != api.OK {
		return 0, 0, e
	}
	return permitted, denied, api.OK
}

// kept leads from each header of a set to itself.
func kept(s *rel.Space, set int) (int, api.Errno) {
	if set == nothing {
		return nothing, api.OK
	}
	keep, e := s.Keep()
	if e != api.OK {
		return 0, e
	}
	return s.Where(keep, set)
}

// joined is what one makes of each share, with the relation that puts its address into headers, and what stays, all together. A set is a relation, too: so it is joined as one.
func joined(s *rel.Space, dest bool, shares []share, stay int, one func(put, among int) (int, api.Errno)) (int, api.Errno) {
	all := stay
	for _, x := range shares {
		put, e := s.Put(field(dest), uint32(x.to))
		if e != api.OK {
			return 0, e
		}
		part, e := one(put, x.among)
		if e != api.OK {
			return 0, e
		}
		if all, e = s.Either(all, part); e != api.OK {
			return 0, e
		}
	}
	return all, api.OK
}

// field is the one into which the rewrites of a kind put their addresses.
func field(dest bool) rel.Field {
	if dest {
		return rel.Dst
	}
	return rel.Src
}
