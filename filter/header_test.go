package filter_test

import (
	"math"
	"math/rand"
	"slices"
	"testing"

	"waymark/api"
	"waymark/filter"
)

// P10.1: the chapter's example.
func TestDecidesKnown(t *testing.T) {
	rules := example().Rules
	decides(t, rules, api.Header{Src: 0x0A000001, Dst: 0x01010101, Proto: 6, SrcPort: 1000, DstPort: 80}, 0)
	decides(t, rules, api.Header{Src: 0x0A000001, Dst: 0x01010101, Proto: 6, SrcPort: 1000, DstPort: 81}, 1)
	decides(t, rules, api.Header{Src: 0x0B000001, Dst: 0x01010101, Proto: 6, SrcPort: 1000, DstPort: 80}, 2)
	decides(t, rules, api.Header{Src: 0x0A000001, Proto: 17, DstPort: 80}, 1)
	decides(t, rules[:2], api.Header{Src: 0x0B000001, Proto: 6, DstPort: 80}, -1)
	decides(t, rules[:1], api.Header{Src: 0x0AFFFFFF, Proto: 6, SrcPort: 65535, DstPort: 80}, 0)
	decides(t, rules[:1], api.Header{Src: 0x0AFFFFFF, Proto: 6, SrcPort: 65535, DstPort: 79}, -1)
	decides(t, rules[1:], api.Header{Src: 0x0A000001, Proto: 6, DstPort: 80}, 0)
}

// P10.1: one rule that asks for all fields: with each field once past an end it does not fit.
func TestFitsKnown(t *testing.T) {
	r := api.Rule{Proto: 6, Src: ten, Dst: api.Prefix{Addr: 0xC0A80100, Bits: 24}, SrcPorts: api.Span{Lo: 1024, Hi: 2047}, DstPorts: api.Span{Lo: 80, Hi: 81}}
	in := api.Header{Src: 0x0A000001, Dst: 0xC0A80107, Proto: 6, SrcPort: 1500, DstPort: 80}
	if !filter.Fits(r, in) {
		t.Error(in)
	}
	for f, list := range [][]uint64{
		{0x09FFFFFF, 0x0B000000, 0, 0xC0A80107, math.MaxUint32},
		{0xC0A800FF, 0xC0A80200, 0, 0x0A000001, math.MaxUint32},
		{5, 7, 0, 255, 17},
		{1023, 2048, 0, 80, 65535},
		{79, 82, 0, 1500, 65535},
	} {
		for _, v := range list {
			at := values(in)
			at[f] = v
			if filter.Fits(r, headerOf(at)) {
				t.Error("out", f, v)
			}
		}
	}
	for f, list := range [][]uint64{{0x0A000000, 0x0AFFFFFF}, {0xC0A80100, 0xC0A801FF}, {6}, {1024, 2047}, {80, 81}} {
		for _, v := range list {
			at := values(in)
			at[f] = v
			if !filter.Fits(r, headerOf(at)) {
				t.Error("in", f, v)
			}
		}
	}
}

// someRules are rules of which one field is an end of what it may be, or past that.
func someRules() []api.Rule {
	var rules []api.Rule
	put := func(change func(*api.Rule)) {
		for _, r := range []api.Rule{anything(true), example().Rules[0]} {
			rules = append(rules, changed(r, change))
		}
	}
	for _, n := range []int{math.MinInt, math.MinInt32, -257, -256, -255, -250, -2, -1, 0, 1, 6, 17, 127, 128, 254, 255, 256, 257, 262, 511, 65536 + 6, 1<<32 - 1, 1 << 32, 1<<32 + 6, math.MaxInt} {
		put(func(r *api.Rule) { r.Proto = n })
	}
	for _, p := range []api.Prefix{
		{}, {Bits: 1}, {Bits: 31}, {Bits: 32}, {Bits: 33}, {Bits: 64}, {Bits: -1}, {Bits: -32}, {Bits: math.MinInt}, {Bits: math.MaxInt}, {Bits: 1 << 32},
		{Addr: 1}, {Addr: 1, Bits: 31}, {Addr: 1, Bits: 32}, {Addr: 1, Bits: 33}, {Addr: 1, Bits: -1}, {Addr: 1 << 31}, {Addr: 1 << 31, Bits: 1}, {Addr: math.MaxUint32}, {Addr: math.MaxUint32, Bits: 31}, {Addr: math.MaxUint32, Bits: 32},
		ten, {Addr: 0x0A000000, Bits: 6}, {Addr: 0x0A000000, Bits: 7}, {Addr: 0x0A000001, Bits: 8}, {Addr: 0x0A800000, Bits: 8}, {Addr: 0x0A800000, Bits: 9},
	} {
		put(func(r *api.Rule) { r.Src = p })
		put(func(r *api.Rule) { r.Dst = p })
	}
	for _, x := range []api.Span{
		{}, {Hi: 1}, {Lo: 1}, {Lo: 1, Hi: 1}, {Lo: 2, Hi: 1}, {Lo: 80, Hi: 79}, {Lo: 80, Hi: 80}, {Lo: 65535, Hi: 65534}, {Lo: 65535, Hi: 65535}, {Lo: 65535}, allPorts,
		{Hi: 65536}, {Lo: 65535, Hi: 65536}, {Lo: 65536, Hi: 65536}, {Lo: 65536, Hi: 65535}, {Lo: 65536}, {Lo: 80, Hi: 65616}, {Hi: math.MaxUint32}, {Lo: math.MaxUint32}, {Lo: math.MaxUint32, Hi: math.MaxUint32}, {Lo: math.MaxUint32, Hi: 80},
	} {
		put(func(r *api.Rule) { r.SrcPorts = x })
		put(func(r *api.Rule) { r.DstPorts = x })
	}
	return rules
}

// P10.1: each of these rules, also of those that may not be, at the ends of its fields and past them.
func TestFitsEach(t *testing.T) {
	fit := 0
	rules := someRules()
	for _, r := range rules {
		list := append(around(r, api.Header{}), around(r, greatest)...)
		for _, other := range rules {
			list = append(list, around(other, api.Header{Proto: 6, DstPort: 80})[0])
		}
		for _, h := range list {
			want := plainFits(r, h)
			if want {
				fit++
			}
			if got := filter.Fits(r, h); got != want {
				t.Fatalf("Fits(%v, %v): %v", r, h, got)
			}
		}
	}
	if fit < 1000 {
		t.Error("only", fit, "fit")
	}
}

// P10.1: the first one that fits decides, whatever stands behind it.
func TestDecidesMany(t *testing.T) {
	r := rand.New(rand.NewSource(10))
	decided, none := 0, 0
	for i := range 20000 {
		rules := anyRules(r, i%3, r.Intn(9))
		h := api.Header{Src: api.Addr(r.Uint32()), Dst: api.Addr(r.Uint32()), Proto: uint8(r.Intn(256)), SrcPort: uint16(r.Intn(65536)), DstPort: uint16(r.Intn(65536))}
		if len(rules) > 0 && i%2 == 0 {
			h = pick(r, around(pick(r, rules...), h)...)
		}
		at := plainDecides(rules, h)
		decides(t, rules, h, at)
		if at < 0 {
			none++
			continue
		}
		decided++
		decides(t, rules[:at+1], h, at)
		decides(t, rules[at:], h, 0)
		decides(t, slices.Concat(rules[:at], rules[at+1:]), h, plainDecides(slices.Concat(rules[:at], rules[at+1:]), h))
		// Twice, and then with what it does turned.
		twice := slices.Concat(rules[:at+1], rules[at:])
		twice[at+1].Permit = !twice[at].Permit
		decides(t, twice, h, at)
	}
	if decided < 3000 || none < 3000 {
		t.Error(decided, "decided,", none, "not")
	}
}

// P10.1: what fits none is denied; so a filter without rules denies all, also with rules in the room behind its end (R3).
func TestNoRules(t *testing.T) {
	room := []api.Rule{anything(true), {Proto: 256}}
	for _, rules := range [][]api.Rule{nil, {}, room[:0], room[1:1]} {
		for _, h := range []api.Header{{}, greatest, {Src: 0x0A000001, Proto: 6, DstPort: 80}} {
			decides(t, rules, h, -1)
		}
	}
	decides(t, room[:1], greatest, 0)
}

// P10.1: the greatest filter, of which the last rule decides.
func TestMostRules(t *testing.T) {
	rules := make([]api.Rule, api.MaxRules)
	for i := range rules {
		rules[i] = api.Rule{Permit: i%2 == 0, Proto: i, SrcPorts: allPorts, DstPorts: allPorts}
	}
	for i := range rules {
		decides(t, rules, api.Header{Src: 7, Proto: uint8(i)}, i)
	}
}
