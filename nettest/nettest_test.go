package nettest

import (
	"reflect"
	"slices"
	"testing"

	"petrinet/api"
	"petrinet/colored"
	"petrinet/net"
	"petrinet/soundness"
)

func TestRandom(t *testing.T) {
	kinds := map[bool]int{}
	for seed := range uint64(300) {
		n := Random(seed, Shape{Places: 4, Trans: 5, Tokens: 2, Weight: 3})
		if f := net.Check(n); f != (api.Fault{}) || !net.Plain(n) || len(n.Places) > 4 || len(n.Trans) > 5 {
			t.Fatal(n, f)
		}
		if !net.Same(n, Random(seed, Shape{Places: 4, Trans: 5, Tokens: 2, Weight: 3})) {
			t.Fatal("another net for the same seed", seed)
		}
		n = Random(seed, Shape{Places: 4, Trans: 5, Tokens: 2, Weight: 3, Cap: 2, Inh: 2, Prio: 1})
		if f := net.Check(n); f != (api.Fault{}) {
			t.Fatal(n, f)
		}
		kinds[net.Plain(n)]++
	}
	if kinds[false] < 200 {
		t.Error("too few nets with capacities, inhibitors or priorities", kinds)
	}
}

func TestMade(t *testing.T) {
	if l := Arcs(3, 1, 0, 2); !slices.Equal(l, []api.Arc{{Place: 3, W: 1}, {Place: 0, W: 2}}) {
		t.Error(l)
	}
	want := api.Net{Name: "n", Places: []api.Place{{Name: "p0"}, {Name: "p1"}}, Trans: []api.Trans{{Name: "t0", Pre: Ones(0, 1)}, {Name: "t1", Pre: Arcs(1, 1), Post: Arcs(0, 1)}}}
	if n := Ordinary(2, [2][]int{{0, 1}, {}}, [2][]int{{1}, {0}}); !net.Same(n, want) {
		t.Error(n)
	}
	if m := net.Initial(Marked(want, 1)); !slices.Equal(m, []int{0, 1}) {
		t.Error(m)
	}
}

func TestAdmitting(t *testing.T) {
	sizes := map[int]bool{}
	for seed := range uint64(200) {
		n := Admitting(seed)
		source := func(u api.Trans) bool { return len(u.Pre) == 0 }
		second := func(p api.Place) bool { return p.Init > 1 }
		if !net.Plain(n) || !net.Ordinary(n) || slices.ContainsFunc(n.Trans, source) || slices.ContainsFunc(n.Places, second) || !net.Same(n, Admitting(seed)) {
			t.Fatal(n)
		}
		sizes[len(n.Trans)] = true
	}
	if len(sizes) < 5 {
		t.Error(sizes)
	}
}

func TestParts(t *testing.T) {
	for seed := range uint64(200) {
		n := Parts(seed, 3, 2, 5)
		markings, all := Reachable(n, 8)
		if f := net.Check(n); f != (api.Fault{}) || len(n.Places) != 6 || len(n.Trans) != 5 || !all || !net.Same(n, Parts(seed, 3, 2, 5)) {
			t.Fatal(n, f, all)
		}
		for _, m := range markings {
			for part := range 3 {
				if m[2*part]+m[2*part+1] != 1 {
					t.Fatal(n, m)
				}
			}
		}
	}
}

func TestReachable(t *testing.T) {
	n := api.Net{Name: "n", Places: []api.Place{{Name: "p", Init: 2}, {Name: "q"}}, Trans: []api.Trans{{Name: "t", Pre: []api.Arc{{Place: 0, W: 1}}, Post: []api.Arc{{Place: 1, W: 1}}}}}
	if l, all := Reachable(n, 3); len(l) != 3 || !all || l[2][1] != 2 {
		t.Error(l, all)
	}
	if l, all := Reachable(n, 2); len(l) != 2 || all {
		t.Error(l, all)
	}
}

func TestColored(t *testing.T) {
	guarded := 0
	for seed := range uint64(300) {
		c := Colored(seed)
		if f := colored.Check(c); f != (api.Fault{}) || !reflect.DeepEqual(c, Colored(seed)) {
			t.Fatal(c, f)
		}
		if slices.ContainsFunc(c.Trans, func(u api.ColorTrans) bool { return len(u.Guards) > 0 }) {
			guarded++
		}
	}
	if guarded < 50 {
		t.Error(guarded)
	}
}

func TestFlow(t *testing.T) {
	changed := 0
	for seed := range uint64(300) {
		n := Flow(seed, 6, 0)
		sound, e := soundness.Sound(n, api.MaxStates)
		if !sound || e != api.OK || !net.Same(n, Flow(seed, 6, 0)) {
			t.Fatal(n, e)
		}
		other := Flow(seed, 6, 2)
		if f := net.Check(other); f != (api.Fault{}) || len(other.Places) != len(n.Places) || len(other.Trans) != len(n.Trans) {
			t.Fatal(other, f)
		}
		if !net.Same(n, other) {
			changed++
		}
	}
	if changed < 250 {
		t.Error(changed)
	}
}
