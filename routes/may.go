package routes

import (
	"math"
	"strings"

	"waymark/addr"
	"waymark/api"
)

// What a name begins with, and what may stand in it.
const (
	letters = "abcdefghijklmnopqrstuvwxyzABCDEFGHIJKLMNOPQRSTUVWXYZ"
	inName  = letters + "0123456789-_./"
)

// routeMay says whether a route may be written.
func routeMay(r api.Route) bool {
	return addr.Check(r.Prefix) == api.OK &&
		r.From >= api.Connected && r.From <= api.IBGP &&
		numbersMay(0, r.Dist, r.Metric, r.Tag) &&
		(r.Iface == "" || isName(r.Iface)) &&
		!(r.Discard && (r.Hop != 0 || r.Iface != ""))
}

// advertMay says whether an advert may be written.
func advertMay(a api.Advert) bool {
	return addr.Check(a.Prefix) == api.OK && numbersMay(0, a.Pref, a.Metric) && numbersMay(-1, a.Session)
}

// numbersMay says whether all of some numbers may be written, if they may from a least one on.
func numbersMay(least int, numbers ...int) bool {
	for _, n := range numbers {
		if n < least || n > math.MaxInt32 {
			return false
		}
	}
	return true
}

// isName says whether a text is a name.
func isName(s string) bool {
	return s != "" && len(s) <= api.MaxName && strings.IndexByte(letters, s[0]) >= 0 && strings.Trim(s, inName) == ""
}
