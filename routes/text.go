package routes

import (
	"strconv"

	"waymark/addr"
	"waymark/api"
)

// sources are the words for where routes come from.
var sources = [...]string{
	api.Connected: "connected",
	api.Written:   "written",
	api.Intra:     "intra",
	api.Inter:     "inter",
	api.External1: "external1",
	api.External2: "external2",
	api.EBGP:      "ebgp",
	api.IBGP:      "ibgp",
}

// Text is a route's text.
func Text(r api.Route) (string, api.Errno) {
	if !routeMay(r) {
		return "", api.ErrArg
	}
	b := write(nil, addr.PrefixText(r.Prefix), sources[r.From], strconv.Itoa(r.Dist), strconv.Itoa(r.Metric), strconv.Itoa(r.Tag))
	if r.Hop != 0 {
		b = write(b, "via", addr.Text(r.Hop))
	}
	if r.Iface != "" {
		b = write(b, "on", r.Iface)
	}
	if r.Discard {
		b = write(b, "discard")
	}
	return string(b), api.OK
}

// AdvertText is an advert's text.
func AdvertText(a api.Advert) (string, api.Errno) {
	if !advertMay(a) {
		return "", api.ErrArg
	}
	b := write(nil, addr.PrefixText(a.Prefix), "via", addr.Text(a.Hop), "pref", strconv.Itoa(a.Pref), "metric", strconv.Itoa(a.Metric))
	b = write(b, "peer", addr.Text(a.Peer), "id", addr.Text(a.PeerID), side(a.External), "origin", addr.Text(a.Origin), "session", strconv.Itoa(a.Session))
	b = write(b, "path")
	b = write(b, texts(a.Path, numberText)...)
	b = write(b, "comm")
	b = write(b, texts(a.Comm, numberText)...)
	b = write(b, "clusters")
	b = write(b, texts(a.Clusters, addr.Text)...)
	return string(b), api.OK
}

// write puts words behind a text, one blank between two.
func write(b []byte, words ...string) []byte {
	for _, word := range words {
		if len(b) > 0 {
			b = append(b, ' ')
		}
		b = append(b, word...)
	}
	return b
}

// texts are the texts of all that stands in a list.
func texts[N any](l []N, text func(N) string) []string {
	list := make([]string, 0, len(l))
	for _, n := range l {
		list = append(list, text(n))
	}
	return list
}

// numberText is the text of an AS or a community.
func numberText(n uint32) string {
	return strconv.FormatUint(uint64(n), 10)
}

// side is the word for the side from which an advert was heard.
func side(external bool) string {
	if external {
		return "external"
	}
	return "internal"
}
