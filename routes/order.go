package routes

import (
	"cmp"

	"waymark/addr"
	"waymark/api"
)

// routeOrder makes the order of routes.
func routeOrder() func(a, b api.Route) int {
	return inTurn(
		func(a, b api.Route) int { return addr.Cmp(a.Prefix, b.Prefix) },
		func(a, b api.Route) int { return cmp.Compare(a.From, b.From) },
		func(a, b api.Route) int { return cmp.Compare(a.Dist, b.Dist) },
		func(a, b api.Route) int { return cmp.Compare(a.Metric, b.Metric) },
		func(a, b api.Route) int { return cmp.Compare(a.Tag, b.Tag) },
		func(a, b api.Route) int { return cmp.Compare(a.Hop, b.Hop) },
		func(a, b api.Route) int { return cmp.Compare(a.Iface, b.Iface) },
		func(a, b api.Route) int { return cmpFlags(a.Discard, b.Discard) },
	)
}

// advertOrder makes the order of adverts.
func advertOrder() func(a, b api.Advert) int {
	return inTurn(
		func(a, b api.Advert) int { return addr.Cmp(a.Prefix, b.Prefix) },
		func(a, b api.Advert) int { return cmp.Compare(a.Session, b.Session) },
		func(a, b api.Advert) int { return cmp.Compare(a.Pref, b.Pref) },
		func(a, b api.Advert) int { return cmp.Compare(a.Metric, b.Metric) },
		func(a, b api.Advert) int { return cmp.Compare(a.Hop, b.Hop) },
		func(a, b api.Advert) int { return cmp.Compare(a.Peer, b.Peer) },
		func(a, b api.Advert) int { return cmp.Compare(a.PeerID, b.PeerID) },
		func(a, b api.Advert) int { return cmpFlags(a.External, b.External) },
		func(a, b api.Advert) int { return cmp.Compare(a.Origin, b.Origin) },
		func(a, b api.Advert) int { return cmpNumbers(a.Path, b.Path) },
		func(a, b api.Advert) int { return cmpNumbers(a.Comm, b.Comm) },
		func(a, b api.Advert) int { return cmpNumbers(a.Clusters, b.Clusters) },
	)
}

// inTurn makes one order of several: what one leaves even, the next one decides.
func inTurn[T any](orders ...func(a, b T) int) func(a, b T) int {
	return func(a, b T) int {
		for _, order := range orders {
			if c := order(a, b); c != 0 {
				return c
			}
		}
		return 0
	}
}

// even makes of an order what says whether two things are the same in it.
func even[T any](order func(a, b T) int) func(a, b T) bool {
	return func(a, b T) bool { return order(a, b) == 0 }
}

// cmpFlags is the order of flags: false ahead of true.
func cmpFlags(a, b bool) int {
	switch {
	case a == b:
		return 0
	case b:
		return -1
	}
	return 1
}

// cmpNumbers is the order of lists of numbers: by their first unlike ones, a beginning ahead of what goes on.
func cmpNumbers[N ~uint32](a, b []N) int {
	for i := range min(len(a), len(b)) {
		if c := cmp.Compare(a[i], b[i]); c != 0 {
			return c
		}
	}
	return cmp.Compare(len(a), len(b))
}
