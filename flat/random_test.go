package flat_test

import (
	"math/rand"
	"reflect"
	"strconv"
	"strings"
	"testing"

	"waymark/api"
	"waymark/flat"
	"waymark/model"
)

// alike tells whether two devices are the same, field by field; nil and empty lists too.
func alike(a, b api.Device) bool { return reflect.DeepEqual(model.Twin(a), model.Twin(b)) }

func pick(r *rand.Rand, list ...string) string { return list[r.Intn(len(list))] }

// wordFor is some word that fits a row's word, or (now and then) nearly does.
func wordFor(r *rand.Rand, kind string, line []string) string {
	if r.Intn(60) == 0 {
		return pick(r, "", "x", "permit", "1a", "0.0.0.0", "01", "-1", "+1", "99999999999999999999", "16777217", "65536", "4294967296", "256", "33", "10.0.0.0", "10.0.0.0/33", "65536:0", "1:", "tcp", "any", "255.0.255.0", strings.Repeat("n", 33), "host", "vrf")
	}
	if bounds, is := strings.CutPrefix(kind, "N"); is && kind != "NAME" {
		low, high, _ := strings.Cut(bounds, "-")
		least, most := atoi(low), atoi(high)
		return strconv.Itoa([]int{least, most, least + r.Intn(min(5, most-least+1)), least + r.Intn(most-least+1), least - 1 + r.Intn(most-least+3)}[r.Intn(5)])
	}
	switch kind {
	case "NAME":
		return pick(r, "a", "b", "c", "a", "b", "vrf", "discard", "in", "ge-0/0", strings.Repeat("n", 32))
	case "ADDR", "HOP":
		return pick(r, "10.0.0.0", "10.0.0.1", "10.0.0.1", "10.0.0.0", "10.1.0.0", "255.255.255.255", "192.168.1.128", "0.0.0.0")
	case "MASK", "OWNMASK":
		return pick(r, "255.255.255.255", "255.255.255.0", "255.255.0.0", "255.255.255.128", "255.0.0.0", "0.0.0.0")
	case "WILD":
		return pick(r, "0.0.0.0", "0.0.0.255", "0.0.255.255", "0.0.0.127", "0.255.255.255", "255.255.255.255")
	case "COMM":
		return pick(r, "0:0", "1:1", "1:2", "65535:65535", "0:65535")
	case "PREFIX":
		return pick(r, "10.0.0.0/8", "10.0.0.0/7", "0.0.0.0/0", "10.0.0.1/32", "10.0.0.0/16", "10.0.0.1/16", "255.255.255.255/32")
	case "GE", "LE":
		return strconv.Itoa(r.Intn(36) - 1 + r.Intn(2))
	case "PROTO":
		return pick(r, "any", "tcp", "udp", "icmp", "6", "17", "1", "0", "255", "89", "tcp", "udp", "6", "17")
	case "PORT", "LASTPORT":
		return pick(r, "0", "80", "80", "443", "65535", "1024")
	case "SEQ":
		return pick(r, "2", "3", "20", "65535", "1", "65536", strconv.Itoa(r.Intn(65536)))
	}
	return strings.ToLower(kind)
}

// anyLine is some line of a block, of which most may stand.
func anyLine(r *rand.Rand, block string) string {
	all := rows[pick(r, grammar[block]...)]
	row := all[r.Intn(len(all))]
	var line []string
	for i := 0; i < len(row); i++ {
		kind, more := strings.CutSuffix(row[i], "+")
		for n := 0; n == 0 || more && r.Intn(2) == 0; n++ {
			line = append(line, wordFor(r, kind, line))
		}
	}
	switch r.Intn(150) {
	case 0:
		line = line[:r.Intn(len(line))]
	case 1:
		line = append(line, wordFor(r, strings.TrimSuffix(pick(r, row...), "+"), line))
	case 2:
		i, k := r.Intn(len(line)), r.Intn(len(line))
		line[i], line[k] = line[k], line[i]
	case 3:
		i := r.Intn(len(line))
		line = append(line[:i], line[i+1:]...)
	}
	return strings.Join(line, " ")
}

// blockOf is the block that a line opens, if it opens one.
func blockOf(line string) string {
	for _, o := range opens {
		if strings.HasPrefix(line+" ", o+" ") {
			return o
		}
	}
	return ""
}

// anyText is some text of so many lines at most. Lines that are refused are left out of it, but for one in so many.
func anyText(r *rand.Rand, lines, keep int) string {
	s, block := "", ""
	t := newTold()
	refused := false
	add := func(line string) bool {
		e := api.OK
		if words := strings.Fields(line); !refused && len(words) > 0 {
			_, e = t.line(line, words)
		}
		if e != api.OK && r.Intn(keep) > 0 {
			return false
		}
		s, refused = s+line+"\n", refused || e != api.OK
		return true
	}
	if r.Intn(20) > 0 {
		add("hostname " + pick(r, "a", "r1"))
	}
	for range r.Intn(lines + 1) {
		line, now := anyLine(r, ""), block
		if block != "" && r.Intn(5) > 0 {
			line = " " + anyLine(r, block)
		} else {
			now = blockOf(line)
		}
		if r.Intn(30) == 0 {
			line = pick(r, " ", "  ") + line
		}
		if add(line) {
			block = now
		}
	}
	return s
}

// agree holds what Parse answers against the tests' own reckoning.
func agree(t *testing.T, s string) {
	t.Helper()
	want, wantPos, wantE := plain(s)
	d, pos, e := flat.Parse(s)
	if pos != wantPos || e != wantE || !alike(d, want) {
		t.Fatalf("Parse(%q):\n%+v %v %d, not\n%+v %v %d", s, d, pos, e, want, wantPos, wantE)
	}
}

// P13.1, and what is refused, where: any texts, against the chapter's tables.
func TestParseAny(t *testing.T) {
	r := rand.New(rand.NewSource(13))
	ends := map[api.Errno]int{}
	for range 2000 {
		s := anyText(r, 40, 40)
		agree(t, s)
		_, _, e := plain(s)
		ends[e]++
	}
	for _, e := range []api.Errno{api.OK, api.ErrTwice, api.ErrMask, api.ErrRef, api.ErrWord, api.ErrNumber, api.ErrNone, api.ErrBlank} {
		if ends[e] < 10 {
			t.Error("few texts end so:", e, ends)
		}
	}
}
