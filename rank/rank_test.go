package rank

import (
	"math/rand"
	"slices"
	"testing"

	"petrinet/api"
	"petrinet/behave"
	"petrinet/explore"
	"petrinet/matrix"
	"petrinet/net"
	"petrinet/netclass"
	"petrinet/nettest"
	"petrinet/semiflow"
	"petrinet/siphon"
)

// cycle has places and transitions in a circle, and a token on the first place.
func cycle(length int) api.Net {
	var trans [][2][]int
	for i := range length {
		trans = append(trans, [2][]int{{i}, {(i + 1) % length}})
	}
	n := nettest.Ordinary(length, trans...)
	n.Places[0].Init = 1
	return n
}

func TestExample(t *testing.T) {
	r, e := Conditions(cycle(2))
	if e != api.OK || r != (Report{Connected: true, Places: true, Trans: true, Rank: 1, Clusters: 2}) {
		t.Error(r, e)
	}
	if ok, e := LiveBounded(cycle(2)); e != api.OK || !ok {
		t.Error(ok, e)
	}
}

func TestConditions(t *testing.T) {
	two := nettest.Ordinary(2, [2][]int{{0}, {0}}, [2][]int{{1}, {1}})
	two.Places[0].Init, two.Places[1].Init = 1, 1
	unmarked := cycle(3)
	unmarked.Places[0].Init = 0
	// A choice between two transitions, whose results are joined.
	deadlock := nettest.Ordinary(3, [2][]int{{0}, {1}}, [2][]int{{0}, {2}}, [2][]int{{1, 2}, {0}})
	deadlock.Places[0].Init = 1
	// Two tokens come back for one.
	growing := nettest.Ordinary(3, [2][]int{{0}, {1, 2}}, [2][]int{{1}, {0}}, [2][]int{{2}, {0}})
	growing.Places[0].Init = 1
	// A choice and a merge, and the same beside a place without transitions.
	choice := nettest.Ordinary(3, [2][]int{{0}, {1}}, [2][]int{{0}, {2}}, [2][]int{{1}, {0}}, [2][]int{{2}, {0}})
	choice.Places[0].Init = 1
	isolated := nettest.Ordinary(4, [2][]int{{0}, {1}}, [2][]int{{0}, {2}}, [2][]int{{1}, {0}}, [2][]int{{2}, {0}})
	// Transitions without input places are clusters of their own.
	free := nettest.Ordinary(1, [2][]int{nil, {0}}, [2][]int{nil, {0}}, [2][]int{{0}, nil}, [2][]int{{0}, nil})
	// A choice whose transitions are the first one and the last one.
	between := nettest.Ordinary(2, [2][]int{{0}, {1}}, [2][]int{{1}, {0}}, [2][]int{{0}, {0}})
	between.Places[1].Init = 1
	for i, c := range []struct {
		n            api.Net
		r            Report
		formed, live bool
	}{
		{cycle(1), Report{true, true, true, 0, 1}, true, true},
		{unmarked, Report{true, true, true, 2, 3}, true, false},
		{two, Report{false, true, true, 0, 2}, false, false},
		{deadlock, Report{true, false, false, 3, 2}, false, false},
		{growing, Report{true, false, false, 3, 3}, false, false},
		{choice, Report{true, true, true, 2, 3}, true, true},
		{isolated, Report{false, true, true, 2, 3}, false, false},
		{nettest.Ordinary(2, [2][]int{{0}, {1}}), Report{true, true, false, 1, 1}, false, false},
		{free, Report{true, false, true, 1, 3}, false, false},
		{between, Report{true, true, true, 1, 2}, true, true},
	} {
		if r, e := Conditions(c.n); e != api.OK || r != c.r {
			t.Error(i, r, e)
		}
		if ok, e := WellFormed(c.n); e != api.OK || ok != c.formed {
			t.Error(i, ok, e)
		}
		if ok, e := LiveBounded(c.n); e != api.OK || ok != c.live {
			t.Error(i, ok, e)
		}
	}
}

func TestErrors(t *testing.T) {
	change := func(f func(n *api.Net)) api.Net {
		n := cycle(2)
		f(&n)
		return n
	}
	confused := nettest.Ordinary(2, [2][]int{{0}, nil}, [2][]int{{0, 1}, nil})
	for i, c := range []struct {
		n api.Net
		e api.Errno
	}{
		{api.Net{}, api.ErrName},
		{nettest.Ordinary(2), api.ErrKind},
		{confused, api.ErrKind},
		{change(func(n *api.Net) { n.Trans[0].Pre[0].W = 2 }), api.ErrKind},
		{change(func(n *api.Net) { n.Trans[0].Prio = 1 }), api.ErrKind},
		{change(func(n *api.Net) { n.Places[0].Cap = 1 }), api.ErrKind},
		{change(func(n *api.Net) { n.Trans[0].Inh = nettest.Arcs(1, 1) }), api.ErrKind},
		{change(func(n *api.Net) { n.Trans[0].Inh = nettest.Arcs(2, 1) }), api.ErrNone},
	} {
		if r, e := Conditions(c.n); e != c.e || r != (Report{}) {
			t.Error(i, r, e)
		}
		if ok, e := WellFormed(c.n); e != c.e || ok {
			t.Error(i, ok, e)
		}
		if ok, e := LiveBounded(c.n); e != c.e || ok {
			t.Error(i, ok, e)
		}
	}
	// Only LiveBounded needs siphons, and their error comes also if the net is not well-formed.
	for _, n := range []api.Net{cycle(13), nettest.Ordinary(13, [2][]int{{0}, {1}})} {
		if _, e := Conditions(n); e != api.OK {
			t.Error(e)
		}
		if ok, e := WellFormed(n); e != api.OK || ok != (len(n.Trans) == 13) {
			t.Error(ok, e)
		}
		if ok, e := LiveBounded(n); e != api.ErrSize || ok {
			t.Error(ok, e)
		}
	}
	if ok, e := LiveBounded(cycle(12)); e != api.OK || !ok {
		t.Error(ok, e)
	}
}

// flowsLimit returns a marked graph with 2 to the power of 11 P-semiflows, more than MaxRows: in each of the steps of a circle, one of two places.
func flowsLimit() api.Net {
	const steps = 11
	var trans [][2][]int
	for i := range steps {
		next := (i + 1) % steps
		trans = append(trans, [2][]int{{2 * i, 2*i + 1}, {2 * next, 2*next + 1}})
	}
	return nettest.Ordinary(2*steps, trans...)
}

func TestSemiflowErrors(t *testing.T) {
	n := flowsLimit()
	_, want := semiflow.Places(n)
	if r, e := Conditions(n); e != want || e != api.ErrLimit || r != (Report{}) {
		t.Error(r, e, want)
	}
	// The same with places and transitions exchanged: a state machine with many T-semiflows.
	var trans [][2][]int
	for i := range 11 {
		next := (i + 1) % 11
		trans = append(trans, [2][]int{{i}, {next}}, [2][]int{{i}, {next}})
	}
	n = nettest.Ordinary(11, trans...)
	_, want = semiflow.Trans(n)
	if r, e := Conditions(n); e != want || e != api.ErrLimit || r != (Report{}) {
		t.Error(r, e, want)
	}
	if ok, e := LiveBounded(n); ok || e != api.ErrLimit {
		t.Error(ok, e)
	}
}

// freeChoice returns a random free-choice net: clusters of places, some of which have common consumers.
func freeChoice(r *rand.Rand) api.Net {
	places := 1 + r.Intn(5)
	n := nettest.Ordinary(places)
	var trans [][2][]int
	for left := r.Perm(places); len(left) > 0; {
		size := 1 + r.Intn(min(2, len(left)))
		inputs := slices.Sorted(slices.Values(left[:size]))
		left = left[size:]
		for range 1 + r.Intn(2) {
			outputs := slices.Sorted(slices.Values(r.Perm(places)[:min(places, 1+r.Intn(2))]))
			trans = append(trans, [2][]int{inputs, outputs})
		}
	}
	n = nettest.Ordinary(places, trans...)
	for p := range n.Places {
		n.Places[p].Init = r.Intn(2)
	}
	return n
}

// TestTheorem checks P38.4, and the parts of the report.
func TestTheorem(t *testing.T) {
	r := rand.New(rand.NewSource(38))
	live, formed, apart, dead := 0, 0, 0, 0
	for range 6000 {
		n := freeChoice(r)
		report, e := Conditions(n)
		if e != api.OK || report != reportByDefinition(n) {
			t.Fatal(n, report, e)
		}
		well, e := WellFormed(n)
		if e != api.OK || well != (report.Connected && report.Places && report.Trans && report.Rank == report.Clusters-1) {
			t.Fatal(n, well, e)
		}
		ok, e := LiveBounded(n)
		siphons, _ := siphon.Siphons(n)
		if e != api.OK || ok != (well && !slices.ContainsFunc(siphons, func(set uint64) bool { return !siphon.Marked(set, net.Initial(n)) })) {
			t.Fatal(n, ok, e)
		}
		if !report.Connected {
			apart++
			continue
		}
		g, e := explore.Explore(n, 400)
		if e == api.OK && ok != (g.Complete && len(behave.Live(n, g)) == len(n.Trans)) {
			t.Fatal(n, ok, g.Complete)
		}
		if ok {
			live++
		} else if well {
			formed++
		} else if g.Complete {
			dead++
		}
	}
	if live < 100 || formed < 100 || apart < 100 || dead < 100 {
		t.Error("too few cases", live, formed, apart, dead)
	}
}

func reportByDefinition(n api.Net) Report {
	places, _ := semiflow.Places(n)
	trans, _ := semiflow.Trans(n)
	r := Report{Connected: netclass.Connected(n), Places: true, Trans: true}
	covered := func(flows [][]int64, i int) bool {
		return slices.ContainsFunc(flows, func(x []int64) bool { return x[i] > 0 })
	}
	for p := range n.Places {
		r.Places = r.Places && covered(places, p)
	}
	leaders := map[int]bool{}
	for u := range n.Trans {
		r.Trans = r.Trans && covered(trans, u)
		leaders[netclass.Clusters(n)[len(n.Places)+u]] = true
	}
	r.Rank, _ = matrix.Rank(net.Incidence(n))
	r.Clusters = len(leaders)
	return r
}
