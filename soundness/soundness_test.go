package soundness

import (
	"math"
	"math/rand"
	"slices"
	"strconv"
	"testing"

	"petrinet/api"
	"petrinet/behave"
	"petrinet/explore"
	"petrinet/firing"
	"petrinet/karpmiller"
	"petrinet/marking"
	"petrinet/net"
	"petrinet/netclass"
	"petrinet/nettest"
	"petrinet/workflow"
)

type ends = [2][]int

// sequence has a transition from the source to the sink.
func sequence() api.Net {
	return nettest.Ordinary(2, ends{{0}, {1}})
}

// joinedChoice has a choice between two transitions, and one transition that joins what both of them produce.
func joinedChoice() api.Net {
	return nettest.Ordinary(4, ends{{0}, {1}}, ends{{0}, {2}}, ends{{1, 2}, {3}})
}

// splitEnds has a parallel split, each part of which leads to the sink.
func splitEnds() api.Net {
	return nettest.Ordinary(4, ends{{0}, {1, 2}}, ends{{1}, {3}}, ends{{2}, {3}})
}

// unbounded has a loop that puts tokens on place 3, and on place 2.
func unbounded() api.Net {
	return nettest.Ordinary(5, ends{{0}, {1}}, ends{{1}, {1, 2, 3}}, ends{{1, 2, 3}, {4}})
}

// traps has a part that cannot be left after transition 2, and a transition that never runs, in a net that can end.
func traps() api.Net {
	return nettest.Ordinary(6, ends{{0}, {1}}, ends{{1}, {2}}, ends{{1}, {3}}, ends{{3}, {4}}, ends{{4}, {3}}, ends{{2, 4}, {5}}, ends{{2}, {5}})
}

func diagnoses(numbers ...int) []api.Diagnosis {
	var list []api.Diagnosis
	for i := 0; i+1 < len(numbers); i += 2 {
		list = append(list, api.Diagnosis{Kind: numbers[i], N: numbers[i+1]})
	}
	return list
}

func same(a, b Report) bool {
	return a.Bounded == b.Bounded && a.Option == b.Option && a.Proper == b.Proper && a.Quasi == b.Quasi && a.States == b.States && slices.Equal(a.List, b.List)
}

func weighted(n api.Net, t, pre, post int) api.Net {
	n.Trans[t].Pre[0].W, n.Trans[t].Post[0].W = pre, post
	return n
}

func TestCheck(t *testing.T) {
	marked := sequence()
	marked.Places[0].Init, marked.Places[1].Init = 7, 7
	for i, c := range []struct {
		n    api.Net
		want Report
		// traces belong to the elements of List.
		traces [][]int
	}{
		{sequence(), Report{true, true, true, true, 2, nil}, nil},
		// The tokens of the net itself do not matter.
		{marked, Report{true, true, true, true, 2, nil}, nil},
		{joinedChoice(), Report{true, false, true, false, 3, diagnoses(api.NoEnd, 0, api.NoEnd, 1, api.NoEnd, 2, api.NeverRuns, 2)}, [][]int{nil, {0}, {1}, nil}},
		{
			splitEnds(),
			Report{true, false, false, true, 5, diagnoses(api.NoEnd, 0, api.NoEnd, 1, api.NoEnd, 2, api.NoEnd, 3, api.NoEnd, 4, api.LeftOver, 2, api.LeftOver, 3, api.LeftOver, 4)},
			[][]int{nil, {0}, {0, 1}, {0, 2}, {0, 1, 2}, {0, 1}, {0, 2}, {0, 1, 2}},
		},
		{unbounded(), Report{List: diagnoses(api.Unbounded, 2)}, [][]int{nil}},
		{traps(), Report{true, false, true, false, 6, diagnoses(api.NoEnd, 3, api.NoEnd, 5, api.NeverRuns, 5)}, [][]int{{0, 2}, {0, 2, 3}, nil}},
		// The sink gets two tokens; the source needs two.
		{weighted(sequence(), 0, 1, 2), Report{true, false, false, true, 2, diagnoses(api.NoEnd, 0, api.NoEnd, 1, api.LeftOver, 1)}, [][]int{nil, {0}, {0}}},
		{weighted(sequence(), 0, 2, 1), Report{true, false, true, false, 1, diagnoses(api.NoEnd, 0, api.NeverRuns, 0)}, [][]int{nil, nil}},
		// A transition that never runs is the only problem.
		{nettest.Ordinary(3, ends{{0}, {1}}, ends{{1}, {2}}, ends{{0, 1}, {2}}), Report{true, true, true, false, 3, diagnoses(api.NeverRuns, 2)}, [][]int{nil}},
	} {
		r, e := Check(c.n, api.MaxStates)
		if e != api.OK || !same(r, c.want) {
			t.Error(i, r, e)
		}
		sound, e := Sound(c.n, 100)
		if e != api.OK || sound != (len(c.want.List) == 0) {
			t.Error(i, sound, e)
		}
		closed, e := Closed(c.n, 100)
		if e != api.OK || closed != sound {
			t.Error(i, closed, e)
		}
		for k, d := range c.want.List {
			if trace, e := Trace(c.n, d, 100); e != api.OK || !slices.Equal(trace, c.traces[k]) {
				t.Error(i, d, trace, e)
			}
		}
	}
}

func TestTraceOfNoDiagnosis(t *testing.T) {
	for _, d := range []api.Diagnosis{
		{}, {Kind: api.NoEnd, N: 5}, {Kind: api.NoEnd, N: -1}, {Kind: api.LeftOver, N: 1}, {Kind: api.NeverRuns, N: 2}, {Kind: api.Unbounded},
		{Kind: api.NoSource}, {Kind: -1}, {Kind: api.LeftOver, N: math.MaxInt},
	} {
		if trace, e := Trace(splitEnds(), d, 100); e != api.ErrNone || len(trace) != 0 {
			t.Error(d, trace, e)
		}
		if trace, e := Trace(sequence(), d, 100); e != api.ErrNone || len(trace) != 0 {
			t.Error(d, trace, e)
		}
	}
	if trace, e := Trace(unbounded(), api.Diagnosis{Kind: api.Unbounded, N: 3}, 100); e != api.ErrNone || len(trace) != 0 {
		t.Error(trace, e)
	}
}

func TestGeneralized(t *testing.T) {
	// With several tokens on the source, transition 2 can take those of different rounds, so that nothing is left for transition 1.
	mixed := nettest.Ordinary(4, ends{{0}, {1}}, ends{{1}, {3}}, ends{{1, 2}, {3}}, ends{{0}, {2}}, ends{{2}, {3}})
	double := weighted(sequence(), 0, 2, 2)
	for i, c := range []struct {
		n    api.Net
		want [5]bool
	}{
		{sequence(), [5]bool{true, true, true, true, true}},
		{joinedChoice(), [5]bool{}},
		{splitEnds(), [5]bool{}},
		{unbounded(), [5]bool{}},
		{mixed, [5]bool{true, false, false, false, false}},
		{double, [5]bool{false, true, false, true, false}},
	} {
		for k := 1; k <= 5; k++ {
			if ok, e := Generalized(c.n, k, 1000); e != api.OK || ok != c.want[k-1] {
				t.Error(i, k, ok, e)
			}
		}
	}
}

// overflowing returns a workflow net in which a place gets more than MaxTokens tokens after many transitions, always only one of which is enabled.
func overflowing() api.Net {
	n := nettest.Ordinary(11)
	for i, t := range [][2][]int{
		{{0, 1}, {1, 99, 2, 99}},
		{{1, 1}, {3, 99, 4, 1}},
		{{4, 99}, {5, 1}},
		{{2, 1, 5, 1}, {3, 99, 5, 1, 6, 1}},
		{{5, 1, 6, 99}, {7, 1}},
		{{3, 1, 7, 1}, {7, 1, 8, 99}},
		{{7, 99}, {9, 1}},
		{{8, 1, 9, 1}, {10, 1}},
	} {
		n.Trans = append(n.Trans, api.Trans{Name: "t" + strconv.Itoa(i), Pre: nettest.Arcs(t[0]...), Post: nettest.Arcs(t[1]...)})
	}
	return n
}

func TestErrors(t *testing.T) {
	prior, faulty, named, full := sequence(), sequence(), sequence(), sequence()
	prior.Trans[0].Prio = 1
	faulty.Trans[0].Name = "p0"
	named.Trans[0].Name = "_close"
	for i := 1; i < api.MaxTrans; i++ {
		full.Trans = append(full.Trans, api.Trans{Name: "u" + strconv.Itoa(i), Pre: nettest.Ones(0), Post: nettest.Ones(1)})
	}
	for i, c := range []struct {
		n             api.Net
		limit         int
		check, closed api.Errno
	}{
		{api.Net{}, 0, api.ErrName, api.ErrName},
		{faulty, 0, api.ErrTwice, api.ErrTwice},
		{prior, 0, api.ErrKind, api.ErrKind},
		{nettest.Ordinary(2), 0, api.ErrState, api.ErrState},
		{nettest.Ordinary(1), 100, api.ErrState, api.ErrState},
		{sequence(), 0, api.ErrRange, api.ErrRange},
		{sequence(), -1, api.ErrRange, api.ErrRange},
		{sequence(), math.MinInt, api.ErrRange, api.ErrRange},
		{sequence(), api.MaxStates + 1, api.ErrRange, api.ErrRange},
		{sequence(), math.MaxInt, api.ErrRange, api.ErrRange},
		{sequence(), 1, api.ErrLimit, api.ErrLimit},
		{sequence(), 2, api.OK, api.ErrLimit},
		{sequence(), 3, api.OK, api.OK},
		{sequence(), api.MaxStates, api.OK, api.OK},
		{unbounded(), 3, api.ErrLimit, api.ErrLimit},
		// The coverability tree has more nodes than the net has states.
		{splitEnds(), 5, api.ErrLimit, api.ErrLimit},
		{named, 0, api.ErrRange, api.ErrTwice},
		{named, 2, api.OK, api.ErrTwice},
		{full, 0, api.ErrRange, api.ErrSize},
		{full, 100, api.OK, api.ErrSize},
		{overflowing(), 5000, api.ErrLimit, api.ErrLimit},
		{overflowing(), api.MaxStates, api.ErrOver, api.ErrOver},
	} {
		if r, e := Check(c.n, c.limit); e != c.check || e != api.OK && !same(r, Report{}) {
			t.Error(i, "Check", r, e)
		}
		if ok, e := Sound(c.n, c.limit); e != c.check || e != api.OK && ok {
			t.Error(i, "Sound", ok, e)
		}
		if ok, e := Closed(c.n, c.limit); e != c.closed || e != api.OK && ok {
			t.Error(i, "Closed", ok, e)
		}
		if ok, e := Generalized(c.n, 1, c.limit); e != c.check || e != api.OK && ok {
			t.Error(i, "Generalized", ok, e)
		}
		want := c.check
		if want == api.OK {
			want = api.ErrNone
		}
		if trace, e := Trace(c.n, api.Diagnosis{}, c.limit); e != want || len(trace) != 0 {
			t.Error(i, "Trace", trace, e)
		}
		for _, k := range []int{0, 6, -1, math.MinInt, math.MaxInt} {
			want := api.ErrRange
			if _, e := workflow.Prepare(c.n); e != api.OK {
				want = e
			}
			if ok, e := Generalized(c.n, k, c.limit); e != want || ok {
				t.Error(i, "Generalized", k, ok, e)
			}
		}
	}
	// Two tokens have three states and four nodes of the tree.
	if ok, e := Generalized(sequence(), 2, 2); e != api.ErrLimit || ok {
		t.Error(ok, e)
	}
}

// random returns a net whose first place is the source, and whose last one is the sink; it may be no workflow net.
func random(seed uint64) api.Net {
	n := nettest.Random(seed, nettest.Shape{Places: 6, Trans: 6, Tokens: 1, Weight: 1 + int(seed%8)/7})
	last := len(n.Places) - 1
	for t := range n.Trans {
		n.Trans[t].Post = slices.DeleteFunc(n.Trans[t].Post, func(a api.Arc) bool { return a.Place == 0 })
		n.Trans[t].Pre = slices.DeleteFunc(n.Trans[t].Pre, func(a api.Arc) bool { return a.Place == last })
	}
	return n
}

// paths reports for each marking whether target can be reached from it.
func paths(n api.Net, markings [][]int, target []int) []bool {
	ends := make([]bool, len(markings))
	for changed := true; changed; {
		changed = false
		for i, m := range markings {
			if ends[i] {
				continue
			}
			ends[i] = slices.Equal(m, target)
			for _, t := range firing.List(n, m) {
				after, _ := firing.Fire(n, m, t)
				k := slices.IndexFunc(markings, func(x []int) bool { return slices.Equal(x, after) })
				ends[i] = ends[i] || ends[k]
			}
			changed = changed || ends[i]
		}
	}
	return ends
}

// reportByDefinition is the report for a prepared workflow net that is bounded, with these markings in the order of layer 14.
func reportByDefinition(n api.Net, markings [][]int) Report {
	final, _ := workflow.Final(n)
	r := Report{Bounded: true, Option: true, Proper: true, Quasi: true, States: len(markings)}
	for i, ends := range paths(n, markings, final) {
		if !ends {
			r.Option = false
			r.List = append(r.List, api.Diagnosis{Kind: api.NoEnd, N: i})
		}
	}
	for i, m := range markings {
		if marking.Leq(final, m) && !marking.Leq(m, final) {
			r.Proper = false
			r.List = append(r.List, api.Diagnosis{Kind: api.LeftOver, N: i})
		}
	}
	for t := range n.Trans {
		if !slices.ContainsFunc(markings, func(m []int) bool { return slices.Contains(firing.List(n, m), t) }) {
			r.Quasi = false
			r.List = append(r.List, api.Diagnosis{Kind: api.NeverRuns, N: t})
		}
	}
	return r
}

func TestByDefinition(t *testing.T) {
	r := rand.New(rand.NewSource(44))
	kinds := map[string]int{}
	for seed := range uint64(5000) {
		n := random(seed)
		if seed%2 == 0 {
			n = nettest.Flow(seed, 1+r.Intn(9), r.Intn(4))
		}
		if !workflow.Is(n) {
			continue
		}
		limit := 1 + r.Intn(120)
		kinds["nets"]++
		prepared, _ := workflow.Prepare(n)
		report, e := Check(n, limit)
		if _, complete, f := karpmiller.Tree(prepared, limit); f != api.OK || (e == api.OK) != complete || !complete && e != api.ErrLimit {
			t.Fatal(n, e)
		}
		if e != api.OK {
			kinds["limit"]++
			continue
		}
		markings, all := nettest.Reachable(prepared, limit)
		want := reportByDefinition
		if !all {
			want = func(api.Net, [][]int) Report { return Report{List: report.List[:1]} }
			kinds["unbounded"]++
		}
		if !same(report, want(prepared, markings)) || !all && report.List[0].Kind != api.Unbounded {
			t.Fatal(n, report, markings)
		}
		checkAgreement(t, n, report, limit, kinds)
		checkTraces(t, n, prepared, report, limit)
		checkGeneralized(t, n, prepared, report, limit, kinds)
	}
	for _, kind := range []string{"nets", "limit", "unbounded", "sound", "unsound", "free", "tokens"} {
		if kinds[kind] < 40 {
			t.Error("too few cases", kind, kinds)
		}
	}
}

// checkAgreement checks P44.2, and the first part of P44.5.
func checkAgreement(t *testing.T, n api.Net, r Report, limit int, kinds map[string]int) {
	t.Helper()
	sound, e := Sound(n, limit)
	if e != api.OK || sound != (r.Bounded && r.Option && r.Proper && r.Quasi) || sound != (len(r.List) == 0) {
		t.Fatal(n, sound, e)
	}
	closed, e := Closed(n, limit)
	if e == api.OK && closed != sound || e != api.OK && e != api.ErrLimit {
		t.Fatal(n, closed, e)
	}
	if e == api.OK {
		cyclic, _ := workflow.Close(n)
		g, _ := explore.Explore(cyclic, limit)
		if closed != (g.Complete && len(behave.Live(cyclic, g)) == len(cyclic.Trans)) {
			t.Fatal(n, closed)
		}
	}
	if sound {
		kinds["sound"]++
	} else if r.Bounded {
		kinds["unsound"]++
	}
}

// leastShortest returns the sequence by which exploration finds a state: each state is found by the first edge to it.
func leastShortest(g api.Graph, state int) []int {
	if state == 0 {
		return nil
	}
	first := slices.IndexFunc(g.Edges, func(e api.Edge) bool { return e.To == state })
	return append(leastShortest(g, g.Edges[first].From), g.Edges[first].Trans)
}

// checkTraces checks P44.4.
func checkTraces(t *testing.T, n, prepared api.Net, r Report, limit int) {
	t.Helper()
	g, _ := explore.Explore(prepared, limit)
	for _, d := range r.List {
		trace, e := Trace(n, d, limit)
		if e != api.OK {
			t.Fatal(n, d, e)
		}
		if d.Kind == api.Unbounded || d.Kind == api.NeverRuns {
			if len(trace) != 0 {
				t.Fatal(n, d, trace)
			}
			continue
		}
		m, f := firing.Run(prepared, net.Initial(prepared), trace)
		if f != (api.Fault{}) || !slices.Equal(m, g.States[d.N]) || !slices.Equal(trace, leastShortest(g, d.N)) {
			t.Fatal(n, d, trace)
		}
	}
}

// checkGeneralized checks P44.3, and the second part of P44.5.
func checkGeneralized(t *testing.T, n, prepared api.Net, r Report, limit int, kinds map[string]int) {
	t.Helper()
	if ok, e := Generalized(n, 1, limit); e != api.OK || ok != r.Option {
		t.Fatal(n, ok, e)
	}
	free := netclass.FreeChoice(n) && len(r.List) == 0
	if free {
		kinds["free"]++
	}
	source, _ := workflow.Source(n)
	final, _ := workflow.Final(n)
	sink := slices.Index(final, 1)
	for k := 2; k <= 4; k++ {
		ok, e := Generalized(n, k, limit)
		if e != api.OK {
			continue
		}
		prepared.Places[source].Init, final[sink] = k, k
		markings, all := nettest.Reachable(prepared, limit)
		if ok != (all && !slices.Contains(paths(prepared, markings, final), false)) || free && !ok {
			t.Fatal(n, k, ok)
		}
		kinds["tokens"]++
	}
}

func TestSharesNoMemory(t *testing.T) {
	n := joinedChoice()
	r, _ := Check(n, 10)
	r.List[0].Kind = 99
	Trace(n, r.List[1], 10)
	Generalized(n, 2, 30)
	Closed(n, 10)
	if !net.Same(n, joinedChoice()) {
		t.Error(n)
	}
	if again, _ := Check(n, 10); again.List[0].Kind != api.NoEnd {
		t.Error(again)
	}
}
