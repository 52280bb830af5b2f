package nested_test

import (
	"math/rand"
	"reflect"
	"strconv"
	"strings"
	"testing"

	"waymark/api"
	"waymark/model"
	"waymark/nested"
	"waymark/tree"
)

// alike tells whether two devices are the same, field by field; nil and empty lists too.
func alike(a, b api.Device) bool { return reflect.DeepEqual(model.Twin(a), model.Twin(b)) }

func pick(r *rand.Rand, list ...string) string { return list[r.Intn(len(list))] }

// wordFor is some word that fits a row's word, or (now and then) nearly does.
func wordFor(r *rand.Rand, kind string) string {
	if r.Intn(60) == 0 {
		return pick(r, "", "x", "accept", "1a", "0.0.0.0", "01", "-1", "+1", "99999999999999999999", "16777217", "65536", "4294967296", "256", "33", "10.0.0.0", "10.0.0.0/33", "10.0.0.0/0", "65536:0", "1:", "tcp", "any", "9-8", "1-65536", "1-", strings.Repeat("n", 33), "<*>", "a b", "then")
	}
	if bounds, is := strings.CutPrefix(kind, "N"); is && kind != "NAME" {
		low, high, _ := strings.Cut(bounds, "-")
		least, most := atoi(low), atoi(high)
		return strconv.Itoa([]int{least, most, least + r.Intn(min(5, most-least+1)), least + r.Intn(most-least+1), least - 1 + r.Intn(most-least+3)}[r.Intn(5)])
	}
	switch kind {
	case "NAME":
		return pick(r, "a", "b", "c", "a", "b", "instance", "discard", "policy", "tag", "ge-0/0", strings.Repeat("n", 32))
	case "ADDR", "HOP":
		return pick(r, "10.0.0.0", "10.0.0.1", "10.0.0.2", "10.0.0.3", "10.1.0.0", "255.255.255.255", "192.168.1.128", "0.0.0.0")
	case "IFADDR":
		return pick(r, "10.0.0.1/24", "10.0.0.0/8", "255.255.255.255/32", "0.0.0.0/1", "10.0.0.2/31")
	case "PORTS":
		return pick(r, "0", "80", "80-80", "0-65535", "443-444", "65535", "1024-65535", "1-0")
	case "COMM":
		return pick(r, "0:0", "1:1", "1:2", "65535:65535", "0:65535")
	case "PREFIX":
		return pick(r, "10.0.0.0/8", "10.0.0.0/7", "0.0.0.0/0", "10.0.0.1/32", "10.0.0.0/16", "10.0.0.1/16", "255.255.255.255/32")
	case "UPTO", "FROM":
		return strconv.Itoa(r.Intn(36) - 1 + r.Intn(2))
	}
	return kind
}

// anyWords are some words of a statement, of which most may stand.
func anyWords(r *rand.Rand, of row) []string {
	var words []string
	for _, w := range of.words {
		kind, more := strings.CutSuffix(w, "+")
		for n := 0; n == 0 || more && r.Intn(2) == 0; n++ {
			words = append(words, wordFor(r, kind))
		}
	}
	switch r.Intn(150) {
	case 0:
		words = words[:1+r.Intn(len(words))]
	case 1:
		words = append(words, wordFor(r, strings.TrimSuffix(of.words[r.Intn(len(of.words))], "+")))
	case 2:
		i, k := r.Intn(len(words)), r.Intn(len(words))
		words[i], words[k] = words[k], words[i]
	}
	return words
}

// anyStatements are some statements of a kind of block. Those that are refused are left out, but for one in so many.
func anyStatements(r *rand.Rand, kind string, most, keep int) []tree.Node {
	var l []tree.Node
	once := map[string]bool{}
	for range r.Intn(most + 1) {
		of := rows[kind][r.Intn(len(rows[kind]))]
		n := tree.Node{Words: anyWords(r, of), Block: of.opens != ""}
		if r.Intn(200) == 0 {
			n.Block = !n.Block
		}
		_, _, e := match(kind, n)
		// What stands in blocks of the same words is put together, and may stand twice then.
		what := of.pattern
		if n.Block {
			what = strings.Join(n.Words, " ")
		}
		if e != api.OK && r.Intn(keep) > 0 || (of.once || n.Block) && once[what] && r.Intn(10*keep) > 0 {
			continue
		}
		once[what] = true
		if n.Block && of.opens != "" {
			n.Kids = anyStatements(r, of.opens, most, keep)
		}
		if of.opens == "rule" && !says(n.Kids, "then") && r.Intn(keep) > 0 {
			n.Kids = append(n.Kids, leaf("then "+pick(r, "accept", "discard")))
		}
		l = append(l, n)
	}
	return l
}

func leaf(words string) tree.Node { return tree.Node{Words: strings.Split(words, " ")} }

func block(words string, kids ...tree.Node) tree.Node {
	return tree.Node{Words: strings.Split(words, " "), Block: true, Kids: kids}
}

// anyText is some text's statements.
func anyText(r *rand.Rand, most, keep int) []tree.Node {
	l := anyStatements(r, "text", most, keep)
	if r.Intn(20) > 0 {
		l = append(l, block("system", leaf("host-name "+pick(r, "a", "r1"))))
	}
	return l
}

// written are statements as a text.
func written(l []tree.Node) string {
	s, _ := tree.Print(l)
	return s
}

// expected is what a text says by the tests' own reckoning; what tree refuses, it refuses.
func expected(s string) (api.Device, api.Pos, api.Errno) {
	l, pos, e := tree.Parse(s)
	if e == api.OK {
		l, pos, e = tree.Inherit(l)
	}
	if e != api.OK {
		return api.Device{}, pos, e
	}
	return plain(l)
}

// agree holds what Parse answers against the tests' own reckoning.
func agree(t *testing.T, s string) api.Errno {
	t.Helper()
	want, wantPos, wantE := expected(s)
	d, pos, e := nested.Parse(s)
	if pos != wantPos || e != wantE || !alike(d, want) {
		t.Fatalf("Parse(%q):\n%+v %v %d, not\n%+v %v %d", s, d, pos, e, want, wantPos, wantE)
	}
	return e
}

// agreeRead holds what Read answers against the tests' own reckoning.
func agreeRead(t *testing.T, l []tree.Node) api.Errno {
	t.Helper()
	want, wantPos, wantE := plain(tree.Merge(l))
	d, pos, e := nested.Read(l)
	if pos != wantPos || e != wantE || !alike(d, want) {
		t.Fatalf("Read(%v):\n%+v %v %d, not\n%+v %v %d", l, d, pos, e, want, wantPos, wantE)
	}
	return e
}

// enough looks whether each error came often enough.
func enough(t *testing.T, ends map[api.Errno]int, least int) {
	t.Helper()
	for _, e := range []api.Errno{api.OK, api.ErrTwice, api.ErrMask, api.ErrWord, api.ErrNumber, api.ErrNone} {
		if ends[e] < least {
			t.Error("few end so:", e, ends)
		}
	}
}

// P15.1, and what is refused, where: any texts, against the chapter's table.
func TestParseAny(t *testing.T) {
	r := rand.New(rand.NewSource(15))
	ends := map[api.Errno]int{}
	for range 2000 {
		ends[agree(t, written(anyText(r, 6, 20)))]++
	}
	enough(t, ends, 10)
}

// P15.1: any statements, with places and without.
func TestReadAny(t *testing.T) {
	r := rand.New(rand.NewSource(16))
	ends := map[api.Errno]int{}
	for range 2000 {
		l := anyText(r, 6, 20)
		ends[agreeRead(t, l)]++
		ends[agreeRead(t, placed(r, l))]++
	}
	enough(t, ends, 10)
}

// placed gives words places, but not always all of them.
func placed(r *rand.Rand, l []tree.Node) []tree.Node {
	own := make([]tree.Node, len(l))
	for i, n := range l {
		for range r.Intn(len(n.Words) + 3) {
			n.Pos = append(n.Pos, api.Pos{Line: 1 + r.Intn(1000), Col: 1 + r.Intn(1000)})
		}
		n.Kids = placed(r, n.Kids)
		own[i] = n
	}
	return own
}
