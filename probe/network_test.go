package probe_test

import (
	"math/rand"
	"testing"

	"waymark/api"
	"waymark/model"
	"waymark/probe"
)

func TestNetwork(t *testing.T) {
	r := rand.New(rand.NewSource(1))
	for round := range 2000 {
		count := 1 + round%8
		l := probe.Network(r.Intn, count)
		if made, at, e := model.Snapshot(l); e != api.OK || len(made) != count {
			what, _ := model.Check(l[at])
			t.Fatal(at, e, what)
		}
	}
}
