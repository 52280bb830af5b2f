package model_test

import (
	"cmp"
	"fmt"
	"math"
	"math/rand"
	"reflect"
	"slices"
	"testing"

	"waymark/api"
	"waymark/model"
)

// shuffled is a device whose things stand in another order, where its form puts them in order.
func shuffled(r *rand.Rand, d api.Device) api.Device {
	d = copied(d)
	mix(r, d.VRFs)
	mix(r, d.Ifaces)
	mix(r, d.Filters)
	mix(r, d.Statics)
	mix(r, d.Prefixes)
	mix(r, d.Communities)
	mix(r, d.Policies)
	return d
}

func mix[T any](r *rand.Rand, l []T) {
	r.Shuffle(len(l), func(i, k int) { l[i], l[k] = l[k], l[i] })
}

// sortedDevice is the form of the device of the tests, by hand.
func sortedDevice() api.Device {
	d, f := device(), device()
	f.VRFs = []string{"blue", "red", "spare"}
	f.Ifaces = []api.Iface{d.Ifaces[2], d.Ifaces[1], d.Ifaces[0], d.Ifaces[3]}
	f.Filters = []api.Filter{d.Filters[1], d.Filters[2], d.Filters[0]}
	f.Prefixes = []api.PrefixList{d.Prefixes[1], d.Prefixes[0], d.Prefixes[2]}
	f.Communities = []api.CommunityList{d.Communities[1], d.Communities[0], d.Communities[2]}
	f.Policies = []api.Policy{d.Policies[1], d.Policies[0], d.Policies[2]}
	f.Statics = []api.Static{d.Statics[3], d.Statics[4], d.Statics[1], d.Statics[2], d.Statics[0]}
	return f
}

// P12.1, P12.3: the form, in whatever order the things stand; the form of the form; the twin.
func TestFormKnown(t *testing.T) {
	r := rand.New(rand.NewSource(12))
	want := sortedDevice()
	for range 200 {
		d := shuffled(r, device())
		was := copied(d)
		form := model.Form(d)
		if !alike(form, want) {
			t.Fatalf("%+v", form)
		}
		if again := model.Form(form); !alike(again, want) {
			t.Fatalf("%+v", again)
		}
		if !model.Same(d, form) || !model.Same(form, d) || !model.Same(d, device()) {
			t.Fatal("not the same", d)
		}
		if twin := model.Twin(d); !alike(twin, was) {
			t.Fatalf("%+v", twin)
		}
		if !alike(d, was) {
			t.Fatal("changed", d)
		}
	}
	if f := model.Form(api.Device{}); !alike(f, api.Device{}) {
		t.Error(f)
	}
}

// P12.1: the order of what is written down, field behind field: each decides ahead of all behind it.
func TestFormStatics(t *testing.T) {
	known := []api.Static{
		{Prefix: api.Prefix{Bits: math.MinInt}, Via: 9, Discard: true, Dist: 9, Tag: 9},
		{Prefix: api.Prefix{Bits: -1}},
		{Dist: math.MinInt, Tag: 9},
		{Dist: -1, Tag: math.MaxInt},
		{Tag: math.MinInt},
		{Tag: -1},
		{},
		{},
		{Tag: 1},
		{Tag: math.MaxInt},
		{Dist: 1, Tag: -9},
		{Dist: 1},
		{Dist: math.MaxInt},
		{Discard: true, Dist: -9, Tag: -9},
		{Discard: true},
		{Via: 1},
		{Via: 1, Discard: true},
		{Via: 1 << 31},
		{Via: math.MaxUint32},
		{Prefix: api.Prefix{Bits: 1}},
		{Prefix: api.Prefix{Bits: 32}, Via: 1},
		{Prefix: api.Prefix{Bits: math.MaxInt}},
		{Prefix: api.Prefix{Addr: 1, Bits: -1}},
		{Prefix: api.Prefix{Addr: 1 << 31, Bits: 1}},
		{Prefix: api.Prefix{Addr: math.MaxUint32}},
		{VRF: "A"},
		{VRF: "B"},
		{VRF: "Ba"},
		{VRF: "a"},
		{VRF: "a", Prefix: ten},
		{VRF: "b"},
		{VRF: "ä"},
	}
	r := rand.New(rand.NewSource(12))
	for range 300 {
		l := slices.Clone(known)
		mix(r, l)
		if got := model.Form(api.Device{Statics: l}).Statics; !slices.Equal(got, known) {
			t.Fatal(got)
		}
	}
}

// anyName is one of few texts, some of which are no names.
func anyName(r *rand.Rand) string {
	return []string{"", "a", "b", "B", "a-", "ab", "aa", "1", "é"}[r.Intn(9)]
}

// anyDevice is one whose lists are up to so long, with names that stand in it often, of which most may not be.
func anyDevice(r *rand.Rand, most int) api.Device {
	var d api.Device
	fill(r, reflect.ValueOf(&d).Elem(), most)
	return d
}

// fill puts some value into a thing.
func fill(r *rand.Rand, v reflect.Value, most int) {
	switch v.Kind() {
	case reflect.Struct:
		for i := range v.NumField() {
			fill(r, v.Field(i), most)
		}
	case reflect.Slice:
		n := r.Intn(most + 1)
		l := reflect.MakeSlice(v.Type(), n, n+r.Intn(3))
		for i := range l.Cap() {
			fill(r, l.Slice(0, l.Cap()).Index(i), most/2)
		}
		v.Set(l)
	case reflect.String:
		v.SetString(anyName(r))
	case reflect.Bool:
		v.SetBool(r.Intn(2) == 0)
	case reflect.Int:
		v.SetInt([]int64{0, 0, 1, 2, 8, 24, 32, 33, -1, -2, math.MaxInt64, math.MinInt64}[r.Intn(12)])
	default:
		v.SetUint([]uint64{0, 0, 1, 2, 3, math.MaxUint64}[r.Intn(6)])
	}
}

// inOrder looks whether a list is another one put in order by names, those of one name in their order.
func inOrder[T any](t *testing.T, was, form []T, name func(T) string) {
	t.Helper()
	want := slices.Clone(was)
	for i := range want {
		for k := i; k > 0 && name(want[k]) < name(want[k-1]); k-- {
			want[k], want[k-1] = want[k-1], want[k]
		}
	}
	if !alike(form, want) {
		t.Fatalf("%+v: %+v", was, form)
	}
}

// P12.1, P12.3: the form of any device, with things of one name: these stay in their order.
func TestFormAny(t *testing.T) {
	r := rand.New(rand.NewSource(12))
	for range 1000 {
		d := anyDevice(r, 7)
		was := copied(d)
		form := model.Form(d)
		inOrder(t, d.VRFs, form.VRFs, func(s string) string { return s })
		inOrder(t, d.Ifaces, form.Ifaces, func(x api.Iface) string { return x.Name })
		inOrder(t, d.Filters, form.Filters, func(x api.Filter) string { return x.Name })
		inOrder(t, d.Prefixes, form.Prefixes, func(x api.PrefixList) string { return x.Name })
		inOrder(t, d.Communities, form.Communities, func(x api.CommunityList) string { return x.Name })
		inOrder(t, d.Policies, form.Policies, func(x api.Policy) string { return x.Name })
		if !slices.IsSortedFunc(form.Statics, plainStatics) || !sameThings(form.Statics, d.Statics) {
			t.Fatal(form.Statics, d.Statics)
		}
		rest := copied(form)
		rest.VRFs, rest.Ifaces, rest.Filters, rest.Prefixes, rest.Communities, rest.Policies, rest.Statics = d.VRFs, d.Ifaces, d.Filters, d.Prefixes, d.Communities, d.Policies, d.Statics
		if !alike(rest, d) || !alike(d, was) {
			t.Fatalf("%+v: %+v", d, form)
		}
		if again := model.Form(form); !alike(again, form) {
			t.Fatalf("%+v: %+v", form, again)
		}
		if twin := model.Twin(d); !alike(twin, d) {
			t.Fatalf("%+v: %+v", d, twin)
		}
		if !model.Same(d, form) || !model.Same(form, d) || !model.Same(d, d) {
			t.Fatalf("%+v", d)
		}
		_, e := model.Check(d)
		if _, g := model.Check(form); (e == api.OK) != (g == api.OK) {
			t.Fatal(d, e, g)
		}
	}
}

// plainStatics is the order of what is written down.
func plainStatics(a, b api.Static) int {
	flag := map[bool]int{true: 1}
	for _, c := range []int{
		cmp.Compare(a.VRF, b.VRF), cmp.Compare(a.Prefix.Addr, b.Prefix.Addr), cmp.Compare(a.Prefix.Bits, b.Prefix.Bits), cmp.Compare(a.Via, b.Via),
		cmp.Compare(flag[a.Discard], flag[b.Discard]), cmp.Compare(a.Dist, b.Dist), cmp.Compare(a.Tag, b.Tag),
	} {
		if c != 0 {
			return c
		}
	}
	return 0
}

// sameThings tells whether two lists have the same things, each as often.
func sameThings[T comparable](a, b []T) bool {
	count := map[T]int{}
	for _, x := range a {
		count[x]++
	}
	for _, x := range b {
		count[x]--
	}
	for _, n := range count {
		if n != 0 {
			return false
		}
	}
	return true
}

// P12.1: things of one name in long lists stay in their order.
func TestFormStable(t *testing.T) {
	var d api.Device
	for i := range 500 {
		name := []string{"b", "a", "c"}[i%3]
		d.Ifaces = append(d.Ifaces, api.Iface{Name: name, Cost: i})
		d.Filters = append(d.Filters, api.Filter{Name: name, Rules: []api.Rule{{Proto: i}}})
		d.Prefixes = append(d.Prefixes, api.PrefixList{Name: name, Entries: []api.Entry{{Ge: i}}})
		d.Communities = append(d.Communities, api.CommunityList{Name: name, Members: []api.Member{{All: []uint32{uint32(i)}}}})
		d.Policies = append(d.Policies, api.Policy{Name: name, Clauses: []api.Clause{{Seq: i}}})
	}
	f := model.Form(d)
	var got [5][]int
	for i := range 500 {
		got[0] = append(got[0], f.Ifaces[i].Cost)
		got[1] = append(got[1], f.Filters[i].Rules[0].Proto)
		got[2] = append(got[2], f.Prefixes[i].Entries[0].Ge)
		got[3] = append(got[3], int(f.Communities[i].Members[0].All[0]))
		got[4] = append(got[4], f.Policies[i].Clauses[0].Seq)
	}
	var want []int
	for _, rest := range []int{1, 0, 2} {
		for i := rest; i < 500; i += 3 {
			want = append(want, i)
		}
	}
	for i, l := range got {
		if !slices.Equal(l, want) {
			t.Error(i, fmt.Sprint(l)[:60])
		}
	}
}
