package nested_test

import (
	"math/big"
	"slices"
	"strconv"
	"strings"

	"waymark/addr"
	"waymark/api"
	"waymark/lists"
	"waymark/tree"
)

// The chapter's table, word by word: of each kind of block what may stand in it. A word in capitals stands for what fits tells of it; + is one or more to the end. ; ends a leaf, ! one that may stand once, { a block, and the kind of it.
var grammar = map[string][]string{
	"text":       {"system { system", "instances { instances", "interfaces { interfaces", "firewall { firewall", "nat { nat", "routes { routes", "policy { policy", "protocols { protocols"},
	"system":     {"host-name NAME !"},
	"instances":  {"NAME ;"},
	"interfaces": {"NAME { interface"},
	"interface": {
		"instance NAME !",
		"address IFADDR !",
		"filter input NAME !",
		"filter output NAME !",
		"nat (inside|outside) !",
		"area N0-16777216 !",
		"metric N1-65535 !",
		"passive !",
		"disable !",
	},
	"firewall": {"filter NAME { filter"},
	"filter":   {"term NAME { rule"},
	"rule":     {"from { fits", "then (accept|discard) !"},
	"fits": {
		"protocol (tcp|udp|icmp|N0-255) !",
		"source PREFIX !",
		"destination PREFIX !",
		"source-port PORTS !",
		"destination-port PORTS !",
	},
	"nat":     {"(source|destination) NAME to ADDR ;"},
	"routes":  {"route PREFIX (next-hop HOP|discard) [instance NAME] [preference N1-255] [tag N0-16777216] ;"},
	"policy":  {"prefix-list NAME { entries", "community NAME { members", "statement NAME { statement"},
	"entries": {"PREFIX [upto UPTO] [from FROM] [reject] ;"},
	"members": {"members COMM+ ;", "reject COMM+ ;"},
	"statement": {
		"default (accept|reject) !",
		"term NAME { clause",
	},
	"clause": {"from { asks", "then { sets"},
	"asks": {
		"prefix-list NAME !",
		"community NAME !",
		"tag N0-16777216 !",
		"metric N0-16777216 !",
		"as N1-4294967295 !",
	},
	"sets": {
		"(accept|reject|next) !",
		"metric N0-16777216 !",
		"preference N0-16777216 !",
		"tag N0-16777216 !",
		"community (set|add) COMM+ !",
		"prepend N1-4294967295+ !",
		"next-hop HOP !",
	},
	"protocols": {"ospf [NAME] { ospf", "bgp [NAME] { bgp"},
	"ospf": {
		"router-id ADDR !",
		"export (direct|static|bgp) [metric N0-16777216] [type N1-2] [policy NAME] ;",
	},
	"bgp": {
		"router-id ADDR !",
		"local-as N1-4294967295 !",
		"network PREFIX ;",
		"neighbor ADDR { peer",
		"export (direct|static|ospf) [metric N0-16777216] [policy NAME] ;",
	},
	"peer": {
		"peer-as N1-4294967295 !",
		"import NAME !",
		"export NAME !",
		"client !",
		"next-hop-self !",
	},
}

// row is a row of words without options and choices, and how the statement ends.
type row struct {
	pattern string
	words   []string
	once    bool
	opens   string // the kind of the block; of a leaf none
}

// spread are all rows of words that a pattern stands for.
func spread(pattern string) [][]string {
	at := strings.IndexAny(pattern, "[(")
	if at < 0 {
		return [][]string{strings.Fields(pattern)}
	}
	end := at + strings.IndexAny(pattern[at:], "])")
	var rows [][]string
	for _, choice := range strings.Split(pattern[at+1:end], "|") {
		rows = append(rows, spread(pattern[:at]+choice+pattern[end+1:])...)
	}
	if pattern[at] == '[' {
		rows = append(rows, spread(pattern[:at]+pattern[end+1:])...)
	}
	return rows
}

// rows are those of each kind of block, made once.
var rows = func() map[string][]row {
	all := map[string][]row{}
	for kind, patterns := range grammar {
		for _, p := range patterns {
			head, opens, _ := strings.Cut(p, "{")
			for _, words := range spread(strings.TrimRight(head, ";! ")) {
				all[kind] = append(all[kind], row{p, words, strings.HasSuffix(p, "!"), strings.TrimSpace(opens)})
			}
		}
	}
	return all
}()

// isName tells whether a text is a name.
func isName(s string) bool {
	for i, c := range []byte(s) {
		letter := c >= 'a' && c <= 'z' || c >= 'A' && c <= 'Z'
		if i == 0 && !letter || !letter && !strings.Contains("0123456789-_./", string(c)) {
			return false
		}
	}
	return len(s) >= 1 && len(s) <= 32
}

// number holds a word against a number's form and its range.
func number(w string, least, most int) api.Errno {
	n, ok := new(big.Int).SetString(w, 10)
	if !ok || n.String() != w || n.Sign() < 0 {
		return api.ErrWord
	}
	if n.Cmp(big.NewInt(int64(least))) < 0 || n.Cmp(big.NewInt(int64(most))) > 0 {
		return api.ErrNumber
	}
	return api.OK
}

// must is ErrWord where something doesn't hold.
func must(holds bool) api.Errno {
	if holds {
		return api.OK
	}
	return api.ErrWord
}

// host holds a word against an address, /, and a number from 1 to 32.
func host(w string) api.Errno {
	l := strings.Split(w, "/")
	if _, e := addr.Parse(l[0]); e != api.OK || len(l) != 2 {
		return api.ErrWord
	}
	return number(l[1], 1, 32)
}

// ports holds a word against a number of a port, or two that rise or are the same; whatever is wrong with its form comes first.
func ports(w string) api.Errno {
	l := strings.Split(w, "-")
	if len(l) > 2 {
		return api.ErrWord
	}
	all := api.OK
	for _, x := range l {
		switch number(x, 0, 65535) {
		case api.ErrWord:
			return api.ErrWord
		case api.ErrNumber:
			all = api.ErrNumber
		}
	}
	if all == api.OK && len(l) == 2 && atoi(l[0]) > atoi(l[1]) {
		all = api.ErrNumber
	}
	return all
}

// fits holds the word at a place of a statement against a row's word.
func fits(kind string, words []string, at int) api.Errno {
	w := words[at]
	if bounds, is := strings.CutPrefix(kind, "N"); is && kind != "NAME" {
		low, high, _ := strings.Cut(bounds, "-")
		return number(w, atoi(low), atoi(high))
	}
	switch kind {
	case "NAME":
		return must(isName(w))
	case "ADDR", "HOP":
		a, e := addr.Parse(w)
		if e == api.OK && a == 0 && kind == "HOP" {
			return api.ErrNumber
		}
		return must(e == api.OK)
	case "IFADDR":
		return host(w)
	case "PORTS":
		return ports(w)
	case "COMM":
		_, e := lists.Parse(w)
		return must(e == api.OK)
	case "PREFIX":
		_, e := addr.ParsePrefix(w)
		if e == api.ErrForm {
			e = api.ErrWord
		}
		return e
	case "UPTO":
		return number(w, bitsOf(words[0]), 32)
	case "FROM":
		return number(w, bitsOf(words[0]), numberSaid(words[1:], "upto", 32))
	}
	return must(w == kind)
}

// bitsOf are the bits of a prefix's text.
func bitsOf(w string) int {
	p, _ := addr.ParsePrefix(w)
	return p.Bits
}

// along holds words against a row: how many of them may stand, and what is wrong with the next.
func along(r row, words []string) (int, api.Errno) {
	for i := range words {
		k := min(i, len(r.words)-1)
		kind, more := strings.CutSuffix(r.words[k], "+")
		if i > k && !more {
			return i, api.ErrWord
		}
		if e := fits(kind, words, i); e != api.OK {
			return i, e
		}
	}
	return len(words), must(len(words) >= len(r.words))
}

// match finds the row of a statement that may stand in a kind of block; if there is none, which word is told, and why.
func match(kind string, n tree.Node) (row, int, api.Errno) {
	far, why := -1, api.OK
	for _, r := range rows[kind] {
		at, e := along(r, n.Words)
		if e == api.OK {
			if n.Block == (r.opens != "") {
				return r, 0, api.OK
			}
			e = api.ErrWord
		}
		if at > far || at == far && e != api.ErrWord {
			far, why = at, e
		}
	}
	if far == len(n.Words) {
		// It ends too early, or as it must not.
		far = 0
	}
	return row{}, far, why
}

// said is what a statement says by a word ahead of it, if it says that: words behind stand in pairs.
func said(w []string, word, unsaid string) string {
	for i := 0; i+1 < len(w); i += 2 {
		if w[i] == word {
			return w[i+1]
		}
	}
	return unsaid
}

func numberSaid(w []string, word string, unsaid int) int {
	return atoi(said(w, word, strconv.Itoa(unsaid)))
}

func atoi(s string) int {
	n, _ := strconv.Atoi(s)
	return n
}

// place is where a word of a statement stands.
func place(n tree.Node, word int) api.Pos {
	if word < len(n.Pos) && word < len(n.Words) {
		return n.Pos[word]
	}
	return api.Pos{}
}

// says tells whether a statement of some words is among others.
func says(l []tree.Node, word string) bool {
	return slices.ContainsFunc(l, func(n tree.Node) bool { return n.Words[0] == word })
}
