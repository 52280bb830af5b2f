package filter_test

import (
	"reflect"
	"slices"
	"testing"

	"waymark/api"
	"waymark/filter"
)

// some are filters of which names stand twice, also none.
func some() []api.Filter {
	return []api.Filter{
		{Name: "b", Rules: []api.Rule{{Proto: 1}}},
		{Name: "a", Rules: example().Rules},
		{Name: "b", Rules: []api.Rule{{Proto: 2}, {Proto: 256}}},
		{Name: "", Rules: []api.Rule{{Proto: 3}}},
		{Name: "empty"},
		{Name: "a b\x00"},
		{Name: "", Rules: []api.Rule{{Proto: 4}}},
		{Name: "empty", Rules: []api.Rule{{Proto: 5}}},
	}
}

// P10.2: the first one of a name, whatever it is and whether it may be; or none.
func TestNamed(t *testing.T) {
	for name, at := range map[string]int{"b": 0, "a": 1, "": 3, "empty": 4, "a b\x00": 5} {
		l := some()
		f, is := filter.Named(l, name)
		if !is || f.Name != name || !slices.Equal(f.Rules, l[at].Rules) {
			t.Error(name, f, is)
		}
		if f, is := filter.Named(l[:at], name); is || f.Name != "" || len(f.Rules) != 0 {
			t.Error(name, f, is)
		}
	}
	for _, name := range []string{"c", "A", "aa", " ", "a ", " a", "a b", "empt", "emptyy", "\x00"} {
		if f, is := filter.Named(some(), name); is || f.Name != "" || len(f.Rules) != 0 {
			t.Error(name, f, is)
		}
	}
	for _, l := range [][]api.Filter{nil, {}} {
		if f, is := filter.Named(l, ""); is || f.Name != "" || len(f.Rules) != 0 {
			t.Error(f, is)
		}
	}
	long := api.Filter{Name: "b", Rules: slices.Repeat([]api.Rule{{Proto: 999}}, 3*api.MaxRules)}
	if f, is := filter.Named([]api.Filter{{Name: "a"}, long}, "b"); !is || len(f.Rules) != 3*api.MaxRules || f.Rules[len(f.Rules)-1].Proto != 999 {
		t.Error(len(f.Rules), is)
	}
}

// R3: its lists are its own, with the room behind their ends.
func TestNamedOwn(t *testing.T) {
	l := some()
	room := slices.Clone(example().Rules)
	l[1].Rules = room[:1]
	f, _ := filter.Named(l, "a")
	if !slices.Equal(f.Rules, room[:1]) {
		t.Fatal(f)
	}
	f.Rules[0].Proto = 99
	f.Rules = append(f.Rules, api.Rule{Proto: 98})
	if !slices.Equal(room, example().Rules) {
		t.Error(room)
	}
	again, is := filter.Named(l, "a")
	if !is || !slices.Equal(again.Rules, example().Rules[:1]) {
		t.Error(again, is)
	}
	room[0].Proto = 97
	if again.Rules[0].Proto == 97 || f.Rules[0].Proto != 99 {
		t.Error("kept")
	}
	// Of an empty list too, and the list of filters stays as it was.
	e := some()
	e[4].Rules = room[:0]
	none, is := filter.Named(e, "empty")
	if _ = append(none.Rules, api.Rule{Proto: 96}); !is || len(none.Rules) != 0 || room[0].Proto != 97 {
		t.Error(none, is, room[0])
	}
	e[4].Rules = nil
	if !reflect.DeepEqual(e, some()) {
		t.Error(e)
	}
}
