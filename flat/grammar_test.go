package flat_test

import (
	"math/big"
	"slices"
	"strconv"
	"strings"

	"waymark/addr"
	"waymark/api"
	"waymark/lists"
)

// The chapter's tables, word by word. A word in capitals stands for what fits tells of it; + is one or more to the line's end.
var grammar = map[string][]string{
	"": {
		"hostname NAME",
		"vrf NAME",
		"interface NAME",
		"ip route [vrf NAME] ADDR MASK (HOP|discard) [distance N1-255] [tag N0-16777216]",
		"ip filter NAME",
		"ip prefix-list NAME (permit|deny) PREFIX [ge GE] [le LE]",
		"ip community-list NAME (permit|deny) COMM+",
		"ip nat (source|destination) filter NAME to ADDR",
		"route-map NAME (permit|deny|next) N1-65535",
		"router ospf [vrf NAME]",
		"router bgp N1-4294967295 [vrf NAME]",
	},
	"interface": {
		"vrf NAME",
		"address ADDR OWNMASK",
		"filter NAME (in|out)",
		"nat (inside|outside)",
		"ospf area N0-16777216",
		"ospf cost N1-65535",
		"ospf passive",
		"shutdown",
	},
	"ip filter": {
		"(permit|deny) PROTO ENDS [PORTS] ENDS [PORTS]",
	},
	"route-map": {
		"match prefix-list NAME",
		"match community-list NAME",
		"match tag N0-16777216",
		"match metric N0-16777216",
		"match as N1-4294967295",
		"set metric N0-16777216",
		"set preference N0-16777216",
		"set tag N0-16777216",
		"set community [add] COMM+",
		"set prepend N1-4294967295+",
		"set next-hop HOP",
		"continue SEQ",
	},
	"router ospf": {
		"router-id ADDR",
		"redistribute (connected|static|bgp) [metric N0-16777216] [type N1-2] [route-map NAME]",
	},
	"router bgp": {
		"router-id ADDR",
		"network ADDR MASK",
		"neighbor ADDR as N1-4294967295",
		"neighbor ADDR route-map NAME (in|out)",
		"neighbor ADDR client",
		"neighbor ADDR next-hop-self",
		"redistribute (connected|static|ospf) [metric N0-16777216] [route-map NAME]",
	},
}

// opens are the statements that open blocks.
var opens = []string{"interface", "ip filter", "route-map", "router ospf", "router bgp"}

// spread are all rows of words without options and choices that a pattern stands for.
func spread(pattern string) [][]string {
	pattern = strings.ReplaceAll(pattern, "ENDS", "(any|host ADDR|ADDR WILD)")
	pattern = strings.ReplaceAll(pattern, "[PORTS]", "[(EQ PORT|RANGE PORT LASTPORT)]")
	at := strings.IndexAny(pattern, "[(")
	if at < 0 {
		return [][]string{strings.Fields(pattern)}
	}
	deep, end, cuts := 0, at, []int{at}
	for ; end == at || deep > 0; end++ {
		switch {
		case strings.IndexByte("[(", pattern[end]) >= 0:
			deep++
		case strings.IndexByte("])", pattern[end]) >= 0:
			deep--
		case pattern[end] == '|' && deep == 1:
			cuts = append(cuts, end)
		}
	}
	cuts = append(cuts, end-1)
	var rows [][]string
	for i := range len(cuts) - 1 {
		rows = append(rows, spread(pattern[:at]+pattern[cuts[i]+1:cuts[i+1]]+pattern[end:])...)
	}
	if pattern[at] == '[' {
		rows = append(rows, spread(pattern[:at]+pattern[end:])...)
	}
	return rows
}

// rows are those of each pattern, made once.
var rows = func() map[string][][]string {
	all := map[string][][]string{}
	for _, patterns := range grammar {
		for _, p := range patterns {
			all[p] = spread(p)
		}
	}
	return all
}()

// isName tells whether a text is a name.
func isName(s string) bool {
	for i, c := range []byte(s) {
		letter := c >= 'a' && c <= 'z' || c >= 'A' && c <= 'Z'
		if i == 0 && !letter || !letter && !strings.Contains("0123456789-_./", string(c)) {
			return false
		}
	}
	return len(s) >= 1 && len(s) <= 32
}

// number holds a word against a number's form and its range.
func number(w string, least, most int) api.Errno {
	n, ok := new(big.Int).SetString(w, 10)
	if !ok || n.String() != w || n.Sign() < 0 {
		return api.ErrWord
	}
	if n.Cmp(big.NewInt(int64(least))) < 0 || n.Cmp(big.NewInt(int64(most))) > 0 {
		return api.ErrNumber
	}
	return api.OK
}

// address is a word as an address, and whether it is one.
func address(w string) (api.Addr, bool) {
	a, e := addr.Parse(w)
	return a, e == api.OK
}

// maskBits are the bits of a mask, or -1.
func maskBits(m api.Addr) int {
	for n := range 33 {
		if uint64(m) == 1<<32-1<<(32-n) {
			return n
		}
	}
	return -1
}

// mask holds a word against what may stand behind an address: a mask or (turned) a wild one.
func mask(w, ahead string, turn api.Addr, own bool) api.Errno {
	m, is := address(w)
	a, _ := address(ahead)
	bits := maskBits(m ^ turn)
	switch {
	case !is:
		return api.ErrWord
	case bits < 0, own && bits == 0, !own && a&^(m^turn) != 0:
		return api.ErrMask
	}
	return api.OK
}

// must is ErrWord where something doesn't hold.
func must(holds bool) api.Errno {
	if holds {
		return api.OK
	}
	return api.ErrWord
}

// fits holds the word at a place of a line against a row's word; seq is that of the clause whose block is open.
func fits(kind string, line []string, at, seq int) api.Errno {
	w := line[at]
	if bounds, is := strings.CutPrefix(kind, "N"); is && kind != "NAME" {
		low, high, _ := strings.Cut(bounds, "-")
		least, _ := strconv.Atoi(low)
		most, _ := strconv.Atoi(high)
		return number(w, least, most)
	}
	switch kind {
	case "NAME":
		return must(isName(w))
	case "ADDR":
		_, is := address(w)
		return must(is)
	case "HOP":
		a, is := address(w)
		if is && a == 0 {
			return api.ErrNumber
		}
		return must(is)
	case "MASK":
		return mask(w, line[at-1], 0, false)
	case "OWNMASK":
		return mask(w, line[at-1], 0, true)
	case "WILD":
		return mask(w, line[at-1], ^api.Addr(0), false)
	case "COMM":
		_, e := lists.Parse(w)
		return must(e == api.OK)
	case "PREFIX":
		_, e := addr.ParsePrefix(w)
		if e == api.ErrForm {
			e = api.ErrWord
		}
		return e
	case "GE":
		return number(w, bitsOf(line[4]), 32)
	case "LE":
		if line[5] == "ge" {
			least, _ := strconv.Atoi(line[6])
			return number(w, least, 32)
		}
		return number(w, bitsOf(line[4]), 32)
	case "PROTO":
		if slices.Contains([]string{"any", "tcp", "udp", "icmp"}, w) {
			return api.OK
		}
		return number(w, 0, 255)
	case "EQ", "RANGE":
		return must(w == strings.ToLower(kind) && slices.Contains([]string{"6", "17", "tcp", "udp"}, line[1]))
	case "PORT":
		return number(w, 0, 65535)
	case "LASTPORT":
		least, _ := strconv.Atoi(line[at-1])
		return number(w, least, 65535)
	case "SEQ":
		return number(w, seq+1, 65535)
	}
	return must(w == kind)
}

// bitsOf are the bits of a prefix's text.
func bitsOf(w string) int {
	p, _ := addr.ParsePrefix(w)
	return p.Bits
}

// along holds a line against a row: how many words of it may stand, and what is wrong with the next.
func along(row, line []string, seq int) (int, api.Errno) {
	for i := range line {
		k := min(i, len(row)-1)
		kind, more := strings.CutSuffix(row[k], "+")
		if i > k && !more {
			return i, api.ErrWord
		}
		if e := fits(kind, line, i, seq); e != api.OK {
			return i, e
		}
	}
	if len(line) < len(row) {
		return len(line), api.ErrWord
	}
	return len(line), api.OK
}

// wrongWord is the first word of a line that may not stand in a block, by all of the block's rows, and why.
func wrongWord(block string, line []string, seq int) (int, api.Errno) {
	far, why := -1, api.ErrWord
	for _, pattern := range grammar[block] {
		for _, row := range rows[pattern] {
			n, e := along(row, line, seq)
			switch {
			case e == api.OK:
				return 0, api.OK
			case n > far:
				far, why = n, e
			case n == far && e != api.ErrWord:
				why = e
			}
		}
	}
	return far, why
}
