package routes

import (
	"strconv"
	"strings"

	"waymark/addr"
	"waymark/api"
)

// Parse is the route of a text.
func Parse(s string) (api.Route, api.Errno) {
	r := readRoute(s)
	// The words were not asked whether they may stand where they do: if one may not, what was read has another text, or none.
	if text, e := Text(r); e != api.OK || text != s {
		return api.Route{}, api.ErrForm
	}
	return r, api.OK
}

// ParseAdvert is the advert of a text.
func ParseAdvert(s string) (api.Advert, api.Errno) {
	a := readAdvert(s)
	if text, e := AdvertText(a); e != api.OK || text != s {
		return api.Advert{}, api.ErrForm
	}
	return a, api.OK
}

// readRoute reads a text as a route's, also if it is none.
func readRoute(s string) api.Route {
	var r api.Route
	next := taker(s)
	r.Prefix = prefix(next())
	r.From = source(next())
	r.Dist = number(next())
	r.Metric = number(next())
	r.Tag = number(next())
	for word := next(); word != ""; word = next() {
		switch word {
		case "via":
			r.Hop = address(next())
		case "on":
			// A copy, so that a name that is kept doesn't keep the whole text.
			r.Iface = strings.Clone(next())
		case "discard":
			r.Discard = true
		}
	}
	return r
}

// readAdvert reads a text as an advert's, also if it is none.
func readAdvert(s string) api.Advert {
	var a api.Advert
	next := taker(s)
	// behind takes a word off that tells what follows, and what follows.
	behind := func() string {
		next()
		return next()
	}
	a.Prefix = prefix(next())
	a.Hop = address(behind())
	a.Pref = number(behind())
	a.Metric = number(behind())
	a.Peer = address(behind())
	a.PeerID = address(behind())
	a.External = next() == side(true)
	a.Origin = address(behind())
	a.Session = number(behind())
	next() // path
	a.Path = listed(next, "comm", unsigned)
	a.Comm = listed(next, "clusters", unsigned)
	a.Clusters = listed(next, "", address)
	return a
}

// taker takes the words off a text, call by call; behind the last one they are empty.
func taker(s string) func() string {
	return func() string {
		word, rest, _ := strings.Cut(s, " ")
		s = rest
		return word
	}
}

// listed reads words as a list, up to one that ends it, or to an empty one.
func listed[N any](next func() string, last string, read func(string) N) []N {
	var list []N
	for word := next(); word != last && word != ""; word = next() {
		list = append(list, read(word))
	}
	return list
}

// prefix reads a word as a prefix.
func prefix(word string) api.Prefix {
	p, _ := addr.ParsePrefix(word)
	return p
}

// address reads a word as an address.
func address(word string) api.Addr {
	a, _ := addr.Parse(word)
	return a
}

// source reads a word as where a route comes from; 0, if it tells none.
func source(word string) uint8 {
	for from, s := range sources {
		if s == word {
			return uint8(from)
		}
	}
	return 0
}

// number reads a word as a number that may be below 0.
func number(word string) int {
	n, _ := strconv.Atoi(word)
	return n
}

// unsigned reads a word as an AS or a community.
func unsigned(word string) uint32 {
	n, _ := strconv.ParseUint(word, 10, 32)
	return uint32(n)
}
