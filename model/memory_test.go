package model_test

import (
	"math/rand"
	"reflect"
	"slices"
	"sync"
	"testing"

	"waymark/api"
	"waymark/model"
)

// stretch is where a list lies, with the room behind its end.
type stretch struct{ from, to uintptr }

// memory are the stretches of all lists of things.
func memory(things ...any) []stretch {
	var list []stretch
	for _, x := range things {
		v := reflect.New(reflect.TypeOf(x)).Elem()
		v.Set(reflect.ValueOf(x))
		eachList(v, "", func(_ string, l reflect.Value) {
			if l.Cap() > 0 {
				list = append(list, stretch{l.Pointer(), l.Pointer() + uintptr(l.Cap())*l.Type().Elem().Size()})
			}
		})
	}
	return list
}

// apart looks whether no two lists of some things share any memory (R3).
func apart(t *testing.T, things ...any) {
	t.Helper()
	list := memory(things...)
	slices.SortFunc(list, func(a, b stretch) int {
		if a.from < b.from {
			return -1
		}
		return 1
	})
	for i := range len(list) - 1 {
		if list[i].to > list[i+1].from {
			t.Fatal("shared")
		}
	}
	if len(list) == 0 {
		t.Error("no lists")
	}
}

// scribble writes into all lists of a thing, and into the room behind their ends, the inner ones first.
func scribble(x any) {
	v := reflect.New(reflect.TypeOf(x)).Elem()
	v.Set(reflect.ValueOf(x))
	var lists []reflect.Value
	eachList(v, "", func(_ string, l reflect.Value) { lists = append(lists, reflect.ValueOf(l.Interface())) })
	for _, l := range slices.Backward(lists) {
		l = l.Slice(0, l.Cap())
		for i := range l.Len() {
			fill(rand.New(rand.NewSource(int64(i))), l.Index(i), 1)
		}
	}
}

// roomy is a device that may be, all of whose lists have room behind their ends, with something in it.
func roomy() api.Device {
	d := device()
	eachList(reflect.ValueOf(&d).Elem(), "", func(_ string, l reflect.Value) {
		room := reflect.MakeSlice(l.Type(), 3, 3)
		fill(rand.New(rand.NewSource(3)), room.Index(1), 2)
		l.Set(reflect.AppendSlice(reflect.AppendSlice(reflect.MakeSlice(l.Type(), 0, l.Len()+3), l), room).Slice(0, l.Len()))
	})
	return d
}

// P12.5, R3: lists that are handed out share none with what is handed in, nor with one another; what is written into them is seen nowhere.
func TestOwnMemory(t *testing.T) {
	d := roomy()
	whole := reflect.ValueOf(d.Ifaces).Slice(0, cap(d.Ifaces)).Interface()
	room := copied(whole.([]api.Iface))
	twin, form := model.Twin(d), model.Form(d)
	l := []api.Device{d, small("b", 1, 9, 9)}
	first, _, _ := model.Snapshot(l)
	second, _, _ := model.Snapshot(l)
	third, at, e := model.Snapshot(first)
	if len(third) != 2 || at != 0 || e != api.OK {
		t.Fatal(third, at, e)
	}
	apart(t, d, twin, form, first, second, third, model.Places(l), model.Places(l), model.Twin(d), model.Form(d))
	if !alike(d, device()) || !alike(whole.([]api.Iface), room) {
		t.Fatal("changed")
	}
	for _, x := range []any{twin, form, first, third, model.Places(l)} {
		scribble(x)
		if !alike(d, device()) || !alike(model.Twin(d), device()) || !alike(model.Form(d), sortedDevice()) || !alike(second[1], sortedDevice()) {
			t.Fatal("seen elsewhere")
		}
		if got := model.Places(l); !slices.Equal(got, []api.Place{{}, {Iface: 1}, {Device: 1}}) {
			t.Fatal(got)
		}
	}
	// What is written into what was handed in is not seen in what was handed out.
	twin, form = model.Twin(d), model.Form(d)
	scribble(d)
	if !alike(twin, device()) || !alike(form, sortedDevice()) || !alike(second[1], sortedDevice()) {
		t.Error("kept")
	}
}

// R3: no call changes what is handed in, nor the room behind its ends.
func TestAsItWas(t *testing.T) {
	r := rand.New(rand.NewSource(12))
	for i := range 500 {
		d := roomy()
		if i%2 == 0 {
			d = anyDevice(r, 6)
		}
		var was, is []any
		keep := func(list *[]any) {
			eachList(reflect.ValueOf(&d).Elem(), "", func(_ string, l reflect.Value) {
				whole := l.Slice(0, l.Cap())
				own := reflect.MakeSlice(l.Type(), whole.Len(), whole.Len())
				reflect.Copy(own, whole)
				*list = append(*list, own.Interface())
			})
		}
		keep(&was)
		l := []api.Device{d, device(), d}
		model.Check(d)
		model.Form(d)
		model.Same(d, d)
		model.Twin(d)
		model.Snapshot(l)
		model.Snapshot(l[:1])
		model.Places(l)
		model.Find(l, "r1", "e9")
		keep(&is)
		if !reflect.DeepEqual(was, is) || l[0].Name != d.Name {
			t.Fatal("changed")
		}
	}
}

// R2: several goroutines at a time get the same answers.
func TestAtATime(t *testing.T) {
	d := roomy()
	var all sync.WaitGroup
	for range 8 {
		all.Go(func() {
			for range 20 {
				l, at, e := model.Snapshot([]api.Device{d})
				if at != 0 || e != api.OK || !alike(l[0], sortedDevice()) || !model.Same(d, l[0]) {
					t.Error(at, e)
				}
			}
		})
	}
	all.Wait()
}

// R1: all calls answer, whatever they are handed.
func TestAlwaysAnswer(t *testing.T) {
	r := rand.New(rand.NewSource(12))
	parts := map[string]int{}
	for i := range 4000 {
		d := anyDevice(r, 1+i%9)
		if i%2 == 1 { // one that may be, but for a few things
			d = device()
			fields := 0
			eachField(reflect.ValueOf(&d).Elem(), "", func(string, reflect.Value) { fields++ })
			for range r.Intn(3) {
				at := r.Intn(fields)
				eachField(reflect.ValueOf(&d).Elem(), "", func(_ string, x reflect.Value) {
					if at == 0 {
						fill(r, x, 1)
					}
					at--
				})
			}
		}
		what, e := model.Check(d)
		if (what == "") != (e == api.OK) || e != api.OK && e != api.ErrModel && e != api.ErrRef {
			t.Fatalf("%q %v", what, e)
		}
		parts[what]++
		if _, g := model.Check(model.Form(d)); (g == api.OK) != (e == api.OK) {
			t.Fatal(what, e, g)
		}
		l, at, g := model.Snapshot([]api.Device{small("first", 7, 77, 77), d})
		switch {
		case e != api.OK && (g != e || at != 1 || len(l) != 0):
			t.Fatal(what, e, at, g)
		case g == api.OK && (at != 0 || len(l) != 2):
			t.Fatal(at, l)
		}
		for _, x := range d.Ifaces {
			p, is := model.Subnet(x)
			if !is && p != (api.Prefix{}) || is && p.Bits != x.Bits {
				t.Fatal(x, p, is)
			}
		}
		for _, p := range model.Places([]api.Device{d, d}) {
			if !model.Alive(d.Ifaces[p.Iface]) {
				t.Fatal(p)
			}
		}
		if len(d.Ifaces) > 0 {
			x := d.Ifaces[r.Intn(len(d.Ifaces))]
			if p, e := model.Find([]api.Device{d}, d.Name, x.Name); e != api.OK || p.Device != 0 || d.Ifaces[p.Iface].Name != x.Name {
				t.Fatal(p, e)
			}
		}
	}
	if len(parts) < 30 || parts[""] < 100 {
		t.Error(parts)
	}
}
