package routes_test

import (
	"fmt"
	"regexp"
	"slices"
	"strconv"
	"strings"
	"testing"

	"waymark/addr"
	"waymark/api"
	"waymark/probe"
	"waymark/routes"
)

const (
	number  = `(0|[1-9][0-9]{0,9})`
	address = `([0-9]+\.[0-9]+\.[0-9]+\.[0-9]+)`
	prefix  = `([0-9]+\.[0-9]+\.[0-9]+\.[0-9]+/[0-9]+)`
)

var (
	routeForm  = regexp.MustCompile(`^` + prefix + ` (connected|written|intra|inter|external1|external2|ebgp|ibgp) ` + number + ` ` + number + ` ` + number + `(?:( discard)|(?: via ` + address + `)?(?: on ([a-zA-Z][a-zA-Z0-9_./-]{0,31}))?)$`)
	advertForm = regexp.MustCompile(`^` + prefix + ` via ` + address + ` pref ` + number + ` metric ` + number + ` peer ` + address + ` id ` + address + ` (external|internal) origin ` + address + ` session (-1|0|[1-9][0-9]{0,9}) path((?: ` + number + `)*) comm((?: ` + number + `)*) clusters((?: ` + address + `)*)$`)
)

// smallNumbers says whether all of some numbers are at most the greatest that is written.
func smallNumbers(list ...int) bool {
	return slices.Max(list) <= 1<<31-1
}

// plainParse is the route of a text, by its form; false, if it is none's.
func plainParse(s string) (api.Route, bool) {
	m := routeForm.FindStringSubmatch(s)
	if m == nil {
		return api.Route{}, false
	}
	var n [3]int
	for i := range n {
		n[i], _ = strconv.Atoi(m[3+i])
	}
	from := slices.Index([]string{"connected", "written", "intra", "inter", "external1", "external2", "ebgp", "ibgp"}, m[2])
	r := api.Route{From: uint8(1 + from), Dist: n[0], Metric: n[1], Tag: n[2], Discard: m[6] != "", Iface: m[8]}
	ok := smallNumbers(n[:]...)
	var e api.Errno
	r.Prefix, e = addr.ParsePrefix(m[1])
	ok = ok && e == api.OK
	if m[7] != "" {
		r.Hop, e = addr.Parse(m[7])
		ok = ok && e == api.OK && r.Hop != 0
	}
	return r, ok
}

// plainParseAdvert is the advert of a text, by its form; false, if it is none's.
func plainParseAdvert(s string) (api.Advert, bool) {
	m := advertForm.FindStringSubmatch(s)
	if m == nil {
		return api.Advert{}, false
	}
	ok := true
	readAddress := func(s string) api.Addr {
		a, e := addr.Parse(s)
		ok = ok && e == api.OK
		return a
	}
	readNumber := func(s string, bits int) int {
		n, err := strconv.ParseInt(s, 10, 64)
		ok = ok && err == nil && n < 1<<bits
		return int(n)
	}
	p, e := addr.ParsePrefix(m[1])
	a := api.Advert{
		Prefix: p, Hop: readAddress(m[2]), Pref: readNumber(m[3], 31), Metric: readNumber(m[4], 31), Peer: readAddress(m[5]), PeerID: readAddress(m[6]),
		External: m[7] == "external", Origin: readAddress(m[8]), Session: readNumber(m[9], 31),
	}
	for _, w := range strings.Fields(m[10]) {
		a.Path = append(a.Path, uint32(readNumber(w, 32)))
	}
	for _, w := range strings.Fields(m[12]) {
		a.Comm = append(a.Comm, uint32(readNumber(w, 32)))
	}
	for _, w := range strings.Fields(m[14]) {
		a.Clusters = append(a.Clusters, readAddress(w))
	}
	return a, ok && e == api.OK
}

// checkParse looks whether a text is read as what it is by its form; whether it is a route's.
func checkParse(t *testing.T, s string) bool {
	t.Helper()
	want, is := plainParse(s)
	if !is {
		want = api.Route{}
	}
	r, e := routes.Parse(s)
	if r != want || is && e != api.OK || !is && e != api.ErrForm {
		t.Fatalf("Parse(%.100q): %v %v, not %v", s, r, e, want)
	}
	if text, e := routes.Text(r); is && (text != s || e != api.OK) {
		t.Fatalf("Text(%v): %q %v, not %q", r, text, e, s)
	}
	return is
}

// checkParseAdvert looks so at an advert's.
func checkParseAdvert(t *testing.T, s string) bool {
	t.Helper()
	want, is := plainParseAdvert(s)
	if !is {
		want = api.Advert{}
	}
	a, e := routes.ParseAdvert(s)
	if !sameAdvert(a, want) || is && e != api.OK || !is && e != api.ErrForm {
		t.Fatalf("ParseAdvert(%.200q): %v %v, not %v", s, a, e, want)
	}
	if text, e := routes.AdvertText(a); is && (text != s || e != api.OK) {
		t.Fatalf("AdvertText(%v): %q %v, not %q", a, text, e, s)
	}
	return is
}

// reworded goes through all texts that come of s with words left out, doubled, changed for one another, or made others.
func reworded(s string, others []string, visit func(string)) {
	words := strings.Split(s, " ")
	say := func(w ...[]string) { visit(strings.Join(slices.Concat(w...), " ")) }
	for i := range words {
		say(words[:i], words[i+1:])
		say(words[:i+1], words[i:])
		say(words[:i])
		say(words[i:])
		for k := range words {
			turned := slices.Clone(words)
			turned[i], turned[k] = turned[k], turned[i]
			say(turned)
		}
		for _, o := range others {
			say(words[:i], []string{o}, words[i+1:])
			say(words[:i], []string{o}, words[i:])
			say(words, []string{o})
		}
	}
}

// others are words that stand in texts, and such as look like them.
func others() []string {
	return []string{
		"", " ", "\n", "\t", "\x00", "0", "1", "-1", "-0", "+1", "00", "01", "-2", "2147483647", "2147483648", "4294967295", "4294967296", "4294967297", "9223372036854775807", "9223372036854775808", "18446744073709551616", "1e1", "0x1", "1_0", "1.0", "\u0661",
		"0.0.0.0", "0.0.0.1", "1.2.3.4", "255.255.255.255", "256.0.0.0", "01.2.3.4", "1.2.3", "0.0.0.0/0", "0.0.0.0/1", "0.0.0.0/32", "0.0.0.0/33", "0.0.0.1/0", "1.2.3.4/32", "10.0.0.0/08",
		"connected", "written", "intra", "inter", "external1", "external2", "ebgp", "ibgp", "Connected", "static", "external", "internal", "External", "discard", "Discard",
		"via", "on", "pref", "metric", "peer", "id", "origin", "session", "path", "comm", "clusters", "Via", "e0", "0e", "e:0", strings.Repeat("e", 32), strings.Repeat("e", 33),
	}
}

// P8.2, P8.4: no text that is a byte or a word away from a route's is read as another one than its own.
func TestParseChanged(t *testing.T) {
	for s := range knownRoutes() {
		probe.Changed(s, func(s string) { checkParse(t, s) })
		reworded(s, others(), func(s string) { checkParse(t, s) })
	}
}

// P8.2, P8.4: so of adverts.
func TestParseAdvertChanged(t *testing.T) {
	for s := range knownAdverts() {
		probe.Changed(s, func(s string) { checkParseAdvert(t, s) })
		reworded(s, others(), func(s string) { checkParseAdvert(t, s) })
	}
}

// spoken is how many of the texts are read that come of s and of so many words at most behind it.
func spoken(s string, words []string, most int, look func(string) bool) int {
	read := 0
	if look(s) {
		read++
	}
	if most > 0 {
		for _, w := range words {
			read += spoken(s+" "+w, words, most-1, look)
		}
	}
	return read
}

// P8.2, P8.4: all that a few words can say behind a route's beginning.
func TestParseEnds(t *testing.T) {
	words := []string{"via", "on", "discard", "0.0.0.0", "1.2.3.4", "e0", "0", ""}
	read := spoken("0.0.0.0/0 written 0 0 0", words, 5, func(s string) bool { return checkParse(t, s) })
	// On four of the words, by a Hop and without one; none of that, by a Hop alone, and discard.
	if want := 4 + 4 + 3; read != want {
		t.Errorf("read %d texts of %d", read, want)
	}
}

// P8.2, P8.4: all that a few words can say behind an advert's beginning.
func TestParseAdvertLists(t *testing.T) {
	beginning := "0.0.0.0/0 via 0.0.0.0 pref 0 metric 0 peer 0.0.0.0 id 0.0.0.0 internal origin 0.0.0.0 session 0"
	words := []string{"path", "comm", "clusters", "0", "4294967295", "1.2.3.4", ""}
	read := spoken(beginning, words, 6, func(s string) bool { return checkParseAdvert(t, s) })
	// Three things in all at most; two words that may stand in each of the first lists, one that may in the last.
	want := 0
	for paths := range 4 {
		for comms := range 4 - paths {
			for range 4 - paths - comms {
				want += 1 << (paths + comms)
			}
		}
	}
	if read != want {
		t.Errorf("read %d texts of %d", read, want)
	}
}

// P8.2: each number at its bounds, in each of its places.
func TestParseNumbers(t *testing.T) {
	for _, n := range []string{"0", "9", "2147483646", "2147483647", "2147483648", "4294967295", "4294967296", "9999999999", "10000000000", "-1", "-2", "-2147483648", "00", "-0", "007", ""} {
		for _, form := range []string{"0.0.0.0/0 ebgp %s 0 0", "0.0.0.0/0 ebgp 0 %s 0", "0.0.0.0/0 ebgp 0 0 %s", "0.0.0.0/0 ebgp 0 0 %s via 1.2.3.4"} {
			checkParse(t, fmt.Sprintf(form, n))
		}
		for _, form := range []string{"pref %s metric 0 |session 0 path comm clusters", "pref 0 metric %s |session 0 path comm clusters", "pref 0 metric 0 |session %s path comm clusters", "pref 0 metric 0 |session 0 path %s comm clusters", "pref 0 metric 0 |session 0 path comm %s clusters"} {
			form = "0.0.0.0/0 via 0.0.0.0 " + strings.Replace(form, "|", "peer 0.0.0.0 id 0.0.0.0 internal origin 0.0.0.0 ", 1)
			checkParseAdvert(t, fmt.Sprintf(form, n))
		}
	}
}

// Wrong texts, short and long ones; a route's is no advert's, nor the other way round.
func TestParseWrong(t *testing.T) {
	wrong := []string{"", " ", "\n", "x", "\x00", "\xff", "discard", "0.0.0.0/0", "path comm clusters"}
	for s := range knownRoutes() {
		wrong = append(wrong, s+" ", " "+s, s+"\n", "\n"+s, s+"\x00", s+" "+s, s+" path comm clusters", strings.ToUpper(s), strings.ReplaceAll(s, " ", "  "), strings.ReplaceAll(s, " ", "\t"), strings.ReplaceAll(s, " ", ""))
		if _, e := routes.ParseAdvert(s); e != api.ErrForm {
			t.Errorf("ParseAdvert(%q): %v", s, e)
		}
	}
	for s := range knownAdverts() {
		wrong = append(wrong, s+" ", " "+s, s+"\n", s+" "+s, strings.ToUpper(s), strings.ReplaceAll(s, " ", "  "), strings.ReplaceAll(s, " ", "\u00a0"))
		if _, e := routes.Parse(s); e != api.ErrForm {
			t.Errorf("Parse(%q): %v", s, e)
		}
	}
	for _, w := range others() {
		wrong = append(wrong, strings.Repeat(w, 100000), strings.Repeat(w+" ", 100000), strings.Repeat(" "+w, 100000))
	}
	for _, s := range wrong {
		if r, e := routes.Parse(s); r != (api.Route{}) || e != api.ErrForm {
			t.Errorf("Parse(%.100q): %v %v", s, r, e)
		}
		if a, e := routes.ParseAdvert(s); !sameAdvert(a, api.Advert{}) || e != api.ErrForm {
			t.Errorf("ParseAdvert(%.100q): %v %v", s, a, e)
		}
	}
}

// P8.4: long lists go there and back.
func TestLongLists(t *testing.T) {
	var a api.Advert
	for i := range 100000 {
		a.Path = append(a.Path, uint32(i)*40000)
		a.Comm = append(a.Comm, ^uint32(i))
		a.Clusters = append(a.Clusters, api.Addr(i)<<12)
	}
	s, e := routes.AdvertText(a)
	if e != api.OK {
		t.Fatal(e)
	}
	if back, e := routes.ParseAdvert(s); !sameAdvert(back, a) || e != api.OK {
		t.Error(e)
	}
	for _, wrong := range []string{s + " ", s + " 1", s[:len(s)-1], s[1:], strings.Replace(s, " clusters", "", 1)} {
		if back, e := routes.ParseAdvert(wrong); !sameAdvert(back, api.Advert{}) || e != api.ErrForm {
			t.Error(e)
		}
	}
}

// R3: the lists of an advert that is read share nothing with one another.
func TestParseAdvertHandedOut(t *testing.T) {
	for s := range knownAdverts() {
		a, _ := routes.ParseAdvert(s)
		comm := slices.Clone(a.Comm)
		path := a.Path[:cap(a.Path)]
		for i := range path {
			path[i] = 77
		}
		if !slices.Equal(a.Comm, comm) {
			t.Error(a)
		}
		b, _ := routes.ParseAdvert(s)
		if text, _ := routes.AdvertText(b); text != s {
			t.Errorf("%q, not %q", text, s)
		}
	}
}
