package words_test

import (
	"math"
	"reflect"
	"slices"
	"strings"
	"testing"

	"waymark/api"
	"waymark/lex"
	"waymark/words"
)

var end = api.Pos{Line: 9, Col: 99}

// row are words that stand at the columns 1, 2, .. of line 5.
func row(texts ...string) *words.Row {
	var list []lex.Word
	for i, s := range texts {
		list = append(list, lex.Word{Text: s, Pos: api.Pos{Line: 5, Col: i + 1}})
	}
	r := words.New(list, end)
	return &r
}

// at is the place of a row's word.
func at(n int) api.Pos { return api.Pos{Line: 5, Col: n + 1} }

// taken holds what methods answered, one behind the other, and where the row failed, against what is due.
func taken(t *testing.T, r *words.Row, got, want []any, pos api.Pos, e api.Errno) {
	t.Helper()
	if !reflect.DeepEqual(got, want) {
		t.Errorf("%v, not %v", got, want)
	}
	if p, no := r.Fault(); p != pos || no != e {
		t.Errorf("%v %v, not %v %v", p, no, pos, e)
	}
}

// Words are taken off in their order, each by its kind.
func TestEachKind(t *testing.T) {
	r := row("ip", "a", "7", "4294967295", "10.0.0.1", "10.0.0.2", "10.0.0.0/8", "1:1", "in", "to", "x")
	got := []any{r.Word(), r.Name(), r.Number(7, 7), r.AS(), r.Addr(), r.Hop(), r.Prefix(), r.Community(), r.One("out", "in"), r.Next("from"), r.Next("to"), r.More(), r.Word(), r.More()}
	r.End()
	taken(t, r, got, []any{"ip", "a", 7, uint32(math.MaxUint32), api.Addr(0x0A000001), api.Addr(0x0A000002), api.Prefix{Addr: 0x0A000000, Bits: 8}, uint32(65537), "in", false, true, true, "x", false}, api.Pos{}, api.OK)
	r = row("le", "9", "x", "vrf", "a")
	got = []any{r.Option("ge", 8, 32, 5), r.Option("le", 8, 32, 5), r.Named("vrf"), r.Word(), r.Named("vrf"), r.Named("vrf"), r.Option("le", 8, 32, -1)}
	taken(t, r, got, []any{5, 9, "", "x", "a", "", -1}, api.Pos{}, api.OK)
	r = row("9", "1", "4294967295")
	taken(t, r, []any{r.ASes(), r.More()}, []any{[]uint32{9, 1, math.MaxUint32}, false}, api.Pos{}, api.OK)
	r = row("5-4294967295")
	r.Word()
	r.Digits()
	r.Digits("5", "4294967295")
	taken(t, r, []any{r.Within("5", 5, 5), r.Within("4294967295", 0, math.MaxUint32)}, []any{5, math.MaxUint32}, api.Pos{}, api.OK)
	r = row("0:9", "1:0")
	taken(t, r, []any{r.Communities(), r.More()}, []any{[]uint32{9, 65536}, false}, api.Pos{}, api.OK)
}

// parts takes two numbers from 5 to 9 off that stand in one word.
func parts(r *words.Row) {
	first, second, _ := strings.Cut(r.Word(), "-")
	r.Digits(first, second)
	r.Within(first, 5, 9)
	r.Within(second, 5, 9)
}

// What is refused, by each kind, at the word.
func TestRefused(t *testing.T) {
	for _, x := range []struct {
		word string
		take func(r *words.Row)
		want api.Errno
	}{
		{"1a", func(r *words.Row) { r.Name() }, api.ErrWord},
		{"", func(r *words.Row) { r.Name() }, api.ErrWord},
		{"4", func(r *words.Row) { r.Number(5, 9) }, api.ErrNumber},
		{"10", func(r *words.Row) { r.Number(5, 9) }, api.ErrNumber},
		{"5", func(r *words.Row) { r.Number(6, 4) }, api.ErrNumber},
		{"99999999999999999999999999", func(r *words.Row) { r.Number(5, 9) }, api.ErrNumber},
		{"0", func(r *words.Row) { r.Number(1, 9) }, api.ErrNumber},
		{"07", func(r *words.Row) { r.Number(5, 9) }, api.ErrWord},
		{"00", func(r *words.Row) { r.Number(0, 9) }, api.ErrWord},
		{"-7", func(r *words.Row) { r.Number(-9, 9) }, api.ErrWord},
		{"+7", func(r *words.Row) { r.Number(5, 9) }, api.ErrWord},
		{"7x", func(r *words.Row) { r.Number(5, 9) }, api.ErrWord},
		{"", func(r *words.Row) { r.Number(0, 9) }, api.ErrWord},
		{"0", func(r *words.Row) { r.AS() }, api.ErrNumber},
		{"4294967296", func(r *words.Row) { r.AS() }, api.ErrNumber},
		{"0", func(r *words.Row) { r.ASes() }, api.ErrNumber},
		{"x", func(r *words.Row) { r.ASes() }, api.ErrWord},
		{"10.0.0", func(r *words.Row) { r.Addr() }, api.ErrWord},
		{"10.0.0.256", func(r *words.Row) { r.Hop() }, api.ErrWord},
		{"0.0.0.0", func(r *words.Row) { r.Hop() }, api.ErrNumber},
		{"10.0.0.0", func(r *words.Row) { r.Prefix() }, api.ErrWord},
		{"10.0.0.0/33", func(r *words.Row) { r.Prefix() }, api.ErrWord},
		{"10.0.0.1/8", func(r *words.Row) { r.Prefix() }, api.ErrMask},
		{"1", func(r *words.Row) { r.Community() }, api.ErrWord},
		{"1:65536", func(r *words.Row) { r.Communities() }, api.ErrWord},
		{"x", func(r *words.Row) { r.One("a", "b") }, api.ErrWord},
		{"a", func(r *words.Row) { r.One() }, api.ErrWord},
		{"x", func(r *words.Row) { r.End() }, api.ErrWord},
		{"5-06", parts, api.ErrWord},
		{"5-", parts, api.ErrWord},
		{"-5", parts, api.ErrWord},
		{"10-x", parts, api.ErrWord},
		{"10-5", parts, api.ErrNumber},
		{"5-10", parts, api.ErrNumber},
		{"5-4", parts, api.ErrNumber},
		{"99999999999999999999-5", parts, api.ErrNumber},
	} {
		r := row("ahead", x.word, "behind")
		r.Word()
		x.take(r)
		if p, e := r.Fault(); p != at(1) || e != x.want {
			t.Errorf("%q: %v %v, not %v", x.word, p, e, x.want)
		}
	}
}

// A word that is missing is told at the end's place, whatever it should be.
func TestMissing(t *testing.T) {
	for i, take := range []func(r *words.Row){
		func(r *words.Row) { r.Word() }, func(r *words.Row) { r.Name() }, func(r *words.Row) { r.Number(0, 9) }, func(r *words.Row) { r.AS() }, func(r *words.Row) { r.ASes() }, func(r *words.Row) { r.Addr() },
		func(r *words.Row) { r.Hop() }, func(r *words.Row) { r.Prefix() }, func(r *words.Row) { r.Community() }, func(r *words.Row) { r.Communities() }, func(r *words.Row) { r.One("x") }, func(r *words.Row) { r.One("") },
	} {
		r := row("x")
		if r.Word(); r.Next("") || r.More() {
			t.Error("more")
		}
		take(r)
		if p, e := r.Fault(); p != end || e != api.ErrWord {
			t.Error(i, p, e)
		}
	}
}

// Once it has failed, nothing is taken off, all answer zero, and the first fault stays.
func TestFailsForGood(t *testing.T) {
	zeros := []any{"", "", 0, uint32(0), []uint32(nil), api.Addr(0), api.Addr(0), api.Prefix{}, uint32(0), []uint32(nil), "", false, false, 0}
	for _, fail := range []func(r *words.Row){
		func(r *words.Row) { r.Name() }, func(r *words.Row) { r.Number(0, 9) }, func(r *words.Row) { r.Hop() }, func(r *words.Row) { r.Prefix() }, func(r *words.Row) { r.Community() }, func(r *words.Row) { r.One("x") }, func(r *words.Row) { r.End() },
		func(r *words.Row) { r.Word(); r.Refuse(api.ErrRef) },
	} {
		r := row("!", "a", "1")
		fail(r)
		pos, e := r.Fault()
		if pos != at(0) || e == api.OK {
			t.Error(pos, e)
		}
		got := []any{r.Word(), r.Name(), r.Number(0, 9), r.AS(), r.ASes(), r.Addr(), r.Hop(), r.Prefix(), r.Community(), r.Communities(), r.One("a", "1"), r.Next("a"), r.More(), r.Within("1", 0, 9)}
		r.Digits("x")
		r.Refuse(api.ErrTwice)
		r.RefuseAll(api.ErrRef)
		r.End()
		taken(t, r, got, zeros, pos, e)
	}
	// What was taken off ahead of the fault is not told either.
	r := row("1", "2", "x")
	taken(t, r, []any{r.ASes()}, []any{[]uint32(nil)}, at(2), api.ErrWord)
}

// Refuse tells the word that was taken off last, RefuseAll the first one.
func TestWhere(t *testing.T) {
	r := row("a", "b", "c")
	r.Word()
	r.Word()
	r.Refuse(api.ErrMask)
	taken(t, r, nil, nil, at(1), api.ErrMask)
	r = row("a", "b", "c")
	r.Word()
	r.Word()
	r.RefuseAll(api.ErrTwice)
	taken(t, r, nil, nil, at(0), api.ErrTwice)
	r = row("a", "b", "c")
	r.Word()
	r.Fail(at(9), api.OK)
	taken(t, r, []any{r.More()}, []any{true}, api.Pos{}, api.OK)
	r.Fail(at(9), api.ErrNone)
	r.Fail(at(8), api.ErrMask)
	taken(t, r, []any{r.More(), r.Word()}, []any{false, ""}, at(9), api.ErrNone)
	for i, take := range []func(r *words.Row){func(r *words.Row) { r.Option("a", 0, 9, 0) }, func(r *words.Row) { r.Named("a") }, func(r *words.Row) { r.Option("a", 0, 9, 0) }, func(r *words.Row) { r.Named("a") }} {
		r = row([]string{"a", "0a"}[:1+i/2]...)
		take(r)
		taken(t, r, nil, nil, []api.Pos{end, at(1)}[i/2], api.ErrWord)
	}
	none := words.New(nil, end)
	none.End()
	none.RefuseAll(api.ErrRef)
	taken(t, &none, nil, nil, api.Pos{}, api.ErrRef)
}

// The list that is handed in is left as it is.
func TestListStays(t *testing.T) {
	list := []lex.Word{{Text: "a", Pos: at(0)}, {Text: "b", Pos: at(1)}}
	was := slices.Clone(list)
	r := words.New(list, end)
	r.Word()
	r.Word()
	if !slices.Equal(list, was) {
		t.Error(list)
	}
}
