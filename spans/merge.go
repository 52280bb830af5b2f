package spans

import "waymark/api"

// The limits of Pieces.
const (
	MaxSets   = 1024
	MaxPieces = 65536
)

// Or is what is in either.
func Or(a, b []api.Span) []api.Span {
	return merge(a, b, func(inA, inB bool) bool { return inA || inB })
}

// And is what is in both.
func And(a, b []api.Span) []api.Span {
	return merge(a, b, func(inA, inB bool) bool { return inA && inB })
}

// Less is what is in a and not in b.
func Less(a, b []api.Span) []api.Span {
	return merge(a, b, func(inA, inB bool) bool { return inA && !inB })
}

// Not is what is not in a set, up to most.
func Not(l []api.Span, most uint32) []api.Span {
	return Less([]api.Span{{Lo: 0, Hi: most}}, l)
}

// Pieces cuts the numbers up to most where sets begin and end.
func Pieces(most uint32, sets ...[]api.Span) ([]api.Span, api.Errno) {
	if len(sets) > MaxSets {
		return nil, api.ErrArg
	}
	list := begins(most, sets)
	if len(list) > MaxPieces {
		return nil, api.ErrArg
	}
	return between(list, most), api.OK
}

// begins are the numbers, rising, at which pieces begin: 0, and those up to most at which a set is cut.
func begins(most uint32, sets [][]api.Span) []uint64 {
	var first, second []uint64
	switch half := len(sets) / 2; len(sets) {
	case 0:
		return []uint64{0}
	case 1:
		first, second = []uint64{0}, cuts(sets[0])
	default:
		// By halves, so that each cut is gone over a few times, not once for each set.
		first, second = begins(most, sets[:half]), begins(most, sets[half:])
	}
	var list []uint64
	sweep(first, second, func(at uint64, _, _ bool) {
		if at <= uint64(most) {
			list = append(list, at)
		}
	})
	return list
}

// merge is the set of the numbers of which keep, told whether a and whether b has them, says that they are in it.
func merge(a, b []api.Span, keep func(inA, inB bool) bool) []api.Span {
	var merged []api.Span
	var begin uint64
	open := false
	sweep(cuts(a), cuts(b), func(at uint64, inA, inB bool) {
		kept := keep(inA, inB)
		if kept && !open {
			begin = at
		}
		if open && !kept {
			merged = append(merged, api.Span{Lo: uint32(begin), Hi: uint32(at - 1)})
		}
		open = kept
	})
	return merged
}

// cuts are the numbers, rising, at which one goes into a set or out of it, in turn: wider than the numbers, for the last one may be 2^32.
func cuts(l []api.Span) []uint64 {
	form := Form(l)
	list := make([]uint64, 0, 2*len(form))
	for _, s := range form {
		list = append(list, uint64(s.Lo), behind(s))
	}
	return list
}

// sweep asks at each cut of two sets, rising, and once where both have one: with whether each of the two has the numbers from there to the next cut.
func sweep(cutsA, cutsB []uint64, ask func(at uint64, inA, inB bool)) {
	a, b := 0, 0
	for a < len(cutsA) || b < len(cutsB) {
		first := b == len(cutsB) || a < len(cutsA) && cutsA[a] <= cutsB[b]
		second := a == len(cutsA) || b < len(cutsB) && cutsB[b] <= cutsA[a]
		var at uint64
		if first {
			at = cutsA[a]
			a++
		}
		if second {
			at = cutsB[b]
			b++
		}
		// Behind an odd number of cuts one is within the set.
		ask(at, a%2 == 1, b%2 == 1)
	}
}

// between are the spans that begin at these numbers and end ahead of the next one, the last one at most.
func between(list []uint64, most uint32) []api.Span {
	pieces := make([]api.Span, len(list))
	for i, at := range list {
		pieces[i] = api.Span{Lo: uint32(at), Hi: most}
		if i > 0 {
			pieces[i-1].Hi = uint32(at - 1)
		}
	}
	return pieces
}
