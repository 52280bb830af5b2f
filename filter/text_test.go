package filter_test

import (
	"fmt"
	"math/rand"
	"strings"
	"testing"

	"waymark/addr"
	"waymark/api"
	"waymark/filter"
	"waymark/probe"
)

// plainText is a rule's text, as the chapter has it.
func plainText(r api.Rule) string {
	action, proto := "deny", "any"
	if r.Permit {
		action = "permit"
	}
	if r.Proto != -1 {
		proto = fmt.Sprint(r.Proto)
	}
	prefix := func(p api.Prefix) string {
		return fmt.Sprintf("%d.%d.%d.%d/%d", p.Addr>>24, p.Addr>>16&255, p.Addr>>8&255, p.Addr&255, p.Bits)
	}
	return fmt.Sprintf("%s %s %s %s %d-%d %d-%d", action, proto, prefix(r.Src), prefix(r.Dst), r.SrcPorts.Lo, r.SrcPorts.Hi, r.DstPorts.Lo, r.DstPorts.Hi)
}

// back looks whether a rule has its text, and the text its rule.
func back(t *testing.T, r api.Rule, s string) {
	t.Helper()
	if got, e := filter.Text(r); got != s || e != api.OK {
		t.Fatalf("Text(%v): %q %v, not %q", r, got, e, s)
	}
	if got, e := filter.Parse(s); got != r || e != api.OK {
		t.Fatalf("Parse(%q): %v %v", s, got, e)
	}
}

// P10.3: the chapter's examples, and the ends of what may be.
func TestTextKnown(t *testing.T) {
	rules := example().Rules
	back(t, rules[0], "permit 6 10.0.0.0/8 0.0.0.0/0 0-65535 80-80")
	back(t, rules[1], "deny any 10.0.0.0/8 0.0.0.0/0 0-65535 0-65535")
	back(t, rules[2], "permit any 0.0.0.0/0 0.0.0.0/0 0-65535 0-65535")
	back(t, api.Rule{}, "deny 0 0.0.0.0/0 0.0.0.0/0 0-0 0-0")
	back(t, api.Rule{Proto: 255, Src: api.Prefix{Addr: 0xFFFFFFFF, Bits: 32}, Dst: api.Prefix{Addr: 1 << 31, Bits: 1}, SrcPorts: api.Span{Lo: 65535, Hi: 65535}, DstPorts: api.Span{Lo: 9, Hi: 10}}, "deny 255 255.255.255.255/32 128.0.0.0/1 65535-65535 9-10")
	back(t, api.Rule{Permit: true, Proto: 17, Src: api.Prefix{Addr: 0x0A010200, Bits: 24}, Dst: api.Prefix{Addr: 0xC0A80000, Bits: 16}, SrcPorts: api.Span{Lo: 1024, Hi: 2047}, DstPorts: api.Span{Hi: 53}}, "permit 17 10.1.2.0/24 192.168.0.0/16 1024-2047 0-53")
}

// P10.3, P10.6: each protocol, each number of bits, each port; and rules of each kind.
func TestTextEach(t *testing.T) {
	put := func(change func(*api.Rule)) {
		for _, r := range []api.Rule{anything(false), example().Rules[0]} {
			r = changed(r, change)
			back(t, r, plainText(r))
		}
	}
	for n := -1; n < 256; n++ {
		put(func(r *api.Rule) { r.Proto = n })
	}
	for bits := range 33 {
		for _, a := range []api.Addr{0, 0x0A0B0C0D, 1 << 31, 0xFFFFFFFF} {
			p, _ := addr.Subnet(a, bits)
			put(func(r *api.Rule) { r.Src = p })
			put(func(r *api.Rule) { r.Dst = p })
		}
	}
	for n := range uint32(65536) {
		x, y := api.Span{Lo: n, Hi: 65535}, api.Span{Lo: n / 2, Hi: n}
		r := api.Rule{Proto: 6, SrcPorts: x, DstPorts: y}
		back(t, r, plainText(r))
		r.SrcPorts, r.DstPorts = y, x
		back(t, r, plainText(r))
	}
	r := rand.New(rand.NewSource(10))
	for kind := range 3 {
		for _, rule := range anyRules(r, kind, 3000) {
			back(t, rule, plainText(rule))
		}
	}
}

// refused looks whether a text is refused, with nothing beside the error.
func refused(t *testing.T, s string) {
	t.Helper()
	if r, e := filter.Parse(s); r != (api.Rule{}) || e != api.ErrForm {
		t.Errorf("Parse(%.80q): %v %v", s, r, e)
	}
}

// P10.3: texts with one word that may not stand there.
func TestParseWords(t *testing.T) {
	words := strings.Split("permit 6 10.0.0.0/8 192.168.0.0/16 1-65535 80-81", " ")
	numbers := []string{"", "-", "-1", "+1", "-0", "+0", "01", "00", "1.0", "1e1", "0x1", "1_0", "a", "1a", "a1", "\u0661", "18446744073709551616", "18446744073709551617", "4294967296", "4294967297", strings.Repeat("1", 100000)}
	wrong := [6][]string{
		{"", "Permit", "PERMIT", "permi", "permits", "allow", "any", "6", "0", "1", "true", "deny,", "Deny", "DENY", "den", "permit\t", "\x00permit", "permit\n"},
		append([]string{"Any", "ANY", "an", "anyy", "tcp", "256", "257", "262", "511", "65542", "4294967302", "*", "6-6", "any-any"}, numbers...),
		{"", "any", "10.0.0.1/8", "10.0.0.0/33", "10.0.0.0/-1", "10.0.0.0", "10.0.0.0/", "/8", "10.0.0/8", "10.0.0.0.0/8", "010.0.0.0/8", "10.0.0.0/08", "10.0.0.0/+8", "256.0.0.0/8", "10.0.0.0/8/8", "10.0.0.0-8", "10.0.0.0/6", "128.0.0.0/0", "0.0.0.0/256", "6", "0-65535"},
		nil,
		{"", "-", "1", "1-", "-1", "1--2", "-1-2", "1-2-", "1-2-3", "-1-2", "2-1", "65535-0", "0-65536", "65536-65536", "65535-65536", "65536-65537", "0-131071", "4294967296-4294967297", "0-4294967295", "0-4294967296", "1:2", "1,2", "1..2", "1/2", "any", "all", "01-2", "1-02", "00-1", "0-00", "+1-2", "1-+2", "0x1-2", "1-0x2", "1_0-20", "1-2a", "a-b", "1\u20132", "0-18446744073709551616", "0-" + strings.Repeat("9", 100000), strings.Repeat("-", 100000)},
		nil,
	}
	wrong[3], wrong[5] = wrong[2], wrong[4]
	for i, list := range wrong {
		for _, word := range list {
			other := append([]string(nil), words...)
			other[i] = word
			refused(t, strings.Join(other, " "))
		}
	}
	if r, e := filter.Parse(strings.Join(words, " ")); e != api.OK || r == (api.Rule{}) {
		t.Error(r, e)
	}
}

// P10.3: texts with too few words or too many, in another order, or with other blanks.
func TestParseForm(t *testing.T) {
	s := "permit 6 10.0.0.0/8 0.0.0.0/0 0-65535 80-80"
	words := strings.Split(s, " ")
	for i := range words {
		refused(t, strings.Join(words[:i], " "))
		refused(t, strings.Join(words[i+1:], " "))
		refused(t, strings.Join(append(append([]string(nil), words[:i]...), words[i+1:]...), " "))
		refused(t, strings.Join(append(append([]string(nil), words[:i+1]...), words[i:]...), " "))
		if i > 0 && i != 3 && i != 5 {
			other := append([]string(nil), words...)
			other[i], other[i-1] = other[i-1], other[i]
			refused(t, strings.Join(other, " "))
		}
	}
	for _, wrong := range []string{"", " ", "     ", " " + s, s + " ", s + "\n", "\n" + s, s + " " + s, s + s, s + " x", s + "\x00", "\ufeff" + s, strings.ToUpper(s), strings.ReplaceAll(s, " ", ""), strings.Repeat(" ", 100000), strings.Repeat("permit ", 100000), strings.Repeat("x", 100000), s + strings.Repeat(" 80-80", 100000)} {
		refused(t, wrong)
	}
	for _, blank := range []string{"  ", "\t", "\n", "\r", ",", "_", "\u00a0", " \t"} {
		refused(t, strings.ReplaceAll(s, " ", blank))
		refused(t, strings.Replace(s, " ", blank, 1))
		at := strings.LastIndex(s, " ")
		refused(t, s[:at]+blank+s[at+1:])
	}
	for _, wrong := range []string{"permit 256 0.0.0.0/0 0.0.0.0/0 0-1 0-1", "permit 6 10.0.0.1/8 0.0.0.0/0 0-1 0-1", "permit -1 0.0.0.0/0 0.0.0.0/0 0-1 0-1", "permit any any any 0-65535 0-65535"} {
		refused(t, wrong)
	}
}

// lookAt looks whether a text is refused, or is the text of a rule that may be.
func lookAt(t *testing.T, s string) {
	t.Helper()
	r, e := filter.Parse(s)
	if e == api.OK && (plainText(r) != s || !plainMay(r)) || e != api.OK && (e != api.ErrForm || r != (api.Rule{})) {
		t.Errorf("Parse(%q): %v %v", s, r, e)
	}
}

// P10.6: nothing that is one byte's change away from a rule's text is read, but what is one too.
func TestTextChanged(t *testing.T) {
	for _, s := range []string{"permit 6 10.0.0.0/8 0.0.0.0/0 0-65535 80-80", "deny any 255.255.255.255/32 128.0.0.0/1 9-10 0-0", "permit 255 0.0.0.0/0 10.1.2.0/24 65535-65535 99-100", "deny 0 0.0.0.0/0 0.0.0.0/0 0-0 0-0"} {
		probe.Changed(s, func(changed string) { lookAt(t, changed) })
	}
}

// P10.3, P10.6: of all short words those are read that are one: as a protocol, and as ports.
func TestShortWords(t *testing.T) {
	protos, spans := 0, 0
	probe.Texts("0125-any", 3, func(word string) {
		s := "permit " + word + " 0.0.0.0/0 0.0.0.0/0 0-1 0-1"
		lookAt(t, s)
		if _, e := filter.Parse(s); e == api.OK {
			protos++
		}
	})
	probe.Texts("0129-", 5, func(word string) {
		s := "deny any 0.0.0.0/0 0.0.0.0/0 " + word + " 0-1"
		lookAt(t, s)
		if _, e := filter.Parse(s); e == api.OK {
			spans++
		}
	})
	wantProtos, wantSpans := 1, 0
	for n := range 256 {
		if strings.Trim(fmt.Sprint(n), "0125") == "" {
			wantProtos++
		}
	}
	for lo := range 1000 {
		for hi := lo; hi < 10000; hi++ {
			if s := fmt.Sprintf("%d-%d", lo, hi); len(s) <= 5 && strings.Trim(s, "0129-") == "" {
				wantSpans++
			}
		}
	}
	if protos != wantProtos || spans != wantSpans {
		t.Error(protos, wantProtos, spans, wantSpans)
	}
}
