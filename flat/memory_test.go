package flat_test

import (
	"math"
	"reflect"
	"testing"

	"waymark/api"
	"waymark/flat"
	"waymark/model"
)

// eachList visits all lists of a thing, those within others ahead of these.
func eachList(v reflect.Value, visit func(l reflect.Value)) {
	switch v.Kind() {
	case reflect.Struct:
		for i := range v.NumField() {
			eachList(v.Field(i), visit)
		}
	case reflect.Slice:
		for i := range v.Len() {
			eachList(v.Index(i), visit)
		}
		visit(v)
	}
}

// scribble writes over all that the lists of a device hold, with the room behind their ends, and tells where each began and ended.
func scribble(d *api.Device) [][2]uintptr {
	var rooms [][2]uintptr
	eachList(reflect.ValueOf(d).Elem(), func(l reflect.Value) {
		if l.Cap() == 0 {
			return
		}
		rooms = append(rooms, [2]uintptr{l.Pointer(), l.Pointer() + uintptr(l.Cap())*l.Type().Elem().Size()})
		for i := range l.Cap() {
			l.Slice(0, l.Cap()).Index(i).SetZero()
		}
	})
	return rooms
}

// R3: what Parse answers is new memory: no two lists share any, and what is written there is seen in no other answer.
func TestParseMemory(t *testing.T) {
	first, _, _ := flat.Parse(whole)
	second, _, _ := flat.Parse(whole)
	was := model.Twin(first)
	rooms := scribble(&first)
	if third, _, _ := flat.Parse(whole); !alike(second, was) || !alike(third, was) {
		t.Error("seen elsewhere")
	}
	rooms = append(rooms, scribble(&second)...)
	for i, a := range rooms {
		for _, b := range rooms[:i] {
			if a[0] < b[1] && b[0] < a[1] {
				t.Error("shared room:", a, b)
			}
		}
	}
	if len(rooms) < 40 {
		t.Error("few lists:", len(rooms))
	}
}

// R3: Print reads no list beyond its end, and changes nothing there.
func TestPrintMemory(t *testing.T) {
	d := full()
	want, _ := flat.Print(d)
	eachList(reflect.ValueOf(&d).Elem(), func(l reflect.Value) {
		more := reflect.MakeSlice(l.Type(), l.Len()+2, l.Len()+2)
		reflect.Copy(more, l)
		l.Set(more.Slice(0, l.Len()))
	})
	was := model.Twin(d)
	if s, e := flat.Print(d); e != api.OK || s != want {
		t.Error(s, e)
	}
	eachList(reflect.ValueOf(&d).Elem(), func(l reflect.Value) {
		for i := l.Len(); i < l.Cap(); i++ {
			if !l.Slice(0, l.Cap()).Index(i).IsZero() {
				t.Error("written behind an end")
			}
		}
	})
	if !alike(d, was) {
		t.Error("changed")
	}
}

// R1: Print answers of any device, of any numbers.
func TestPrintAnything(t *testing.T) {
	for _, n := range []int{math.MinInt, -2, -1, 0, 1, 2, 33, 65536, 1 << 24, math.MaxInt} {
		for _, size := range []int{0, 1, 3} {
			var d api.Device
			stuff(reflect.ValueOf(&d).Elem(), n, size)
			for _, kind := range []uint8{api.Flat, api.Nested, uint8(n)} {
				d.Name, d.Kind = "a", kind
				if s, e := flat.Print(d); (e == api.OK) != (kind == api.Flat && size == 0) || e != api.OK && s != "" {
					t.Error(n, size, kind, e, s)
				}
			}
		}
	}
}

// stuff puts a number everywhere in a thing, and so many things in each of its lists.
func stuff(v reflect.Value, n, size int) {
	switch v.Kind() {
	case reflect.Struct:
		for i := range v.NumField() {
			stuff(v.Field(i), n, size)
		}
	case reflect.Slice:
		v.Set(reflect.MakeSlice(v.Type(), size, size))
		for i := range size {
			stuff(v.Index(i), n, size)
		}
	case reflect.Bool:
		v.SetBool(n%2 == 0)
	case reflect.Int:
		v.SetInt(int64(n))
	case reflect.String:
		v.SetString([]string{"", "a", "1\n"}[size%3])
	default:
		v.SetUint(uint64(n) & (1<<v.Type().Bits() - 1))
	}
}
