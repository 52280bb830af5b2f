package spf_test

import (
	"math/rand"
	"reflect"
	"slices"
	"testing"

	"waymark/api"
	"waymark/spf"
	"waymark/topo"
)

// answers are all that is told of a topo.
type answers struct {
	instances []spf.Instance
	costs     [][]spf.Cost
	tables    []api.Table
}

// answer asks for all that is told of a topo.
func answer(x *topo.Topo, ext []api.Taken) answers {
	var a answers
	a.instances = spf.Instances(x)
	for i := range a.instances {
		l, _ := spf.Costs(x, i)
		a.costs = append(a.costs, l)
	}
	a.tables, _ = spf.Routes(x, ext)
	return a
}

// spoil writes over a list, and over the room behind its end.
func spoil[T any](list []T, by T) {
	list = list[:cap(list)]
	for i := range list {
		list[i] = by
	}
}

// R3: whatever is written into what was handed out, no other list of it and no later answer shows it; what is handed in stays as it is, with the room behind its end.
func TestMemory(t *testing.T) {
	r := rand.New(rand.NewSource(183))
	for round := range 60 {
		l := drawn(r, 2+round%5)
		x := made(t, l)
		ext := drawnTaken(r, newPlain(x.Devices()))
		room := append(slices.Clone(ext), taken(99, 9, -1, -1), taken(98, 9, -1, -1))
		kept := slices.Clone(room)
		before := copied(x.Devices())
		want, got := answer(x, room[:len(ext)]), answer(x, room[:len(ext)])
		for i := range got.instances {
			others := slices.Clone(got.instances)
			spoil(got.instances[i].Areas, 77)
			for k := range others {
				if k > i && !slices.Equal(others[k].Areas, want.instances[k].Areas) {
					t.Error(i, k, others[k])
				}
			}
			spoil(got.costs[i], spf.Cost{Metric: 77})
		}
		for i := range got.tables {
			spoil(got.tables[i].Routes, api.Route{Metric: 77})
			for k := range got.tables {
				if k > i && !slices.Equal(got.tables[k].Routes, want.tables[k].Routes) {
					t.Error(i, k, got.tables[k])
				}
			}
		}
		spoil(got.instances, spf.Instance{Device: 77})
		spoil(got.tables, api.Table{Device: 77})
		if again := answer(x, ext); !reflect.DeepEqual(again, want) {
			t.Error(again, want)
		}
		if !slices.Equal(room, kept) || !reflect.DeepEqual(x.Devices(), before) {
			t.Error(room, kept)
		}
	}
}
