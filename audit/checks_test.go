package audit

import (
	"math/rand"
	"slices"
	"testing"

	"petrinet/align"
	"petrinet/api"
	"petrinet/backward"
	"petrinet/colored"
	"petrinet/explore"
	"petrinet/mincover"
	"petrinet/nettest"
	"petrinet/synth"
)

// The functions of the program do not contradict each other. These tests change a result of one of them, so that the checks have something to find.

// changed returns the audit of a net with its state graph after a change.
func changed(t *testing.T, n api.Net, change func(g *api.Graph)) netAudit {
	t.Helper()
	g, e := explore.Explore(n, 100)
	if e != api.OK || !g.Complete {
		t.Fatal(n, e)
	}
	change(&g)
	return auditOf(n, g)
}

// added adds a state with edges.
func added(m []int, edges ...api.Edge) func(g *api.Graph) {
	return func(g *api.Graph) {
		g.States = append(g.States, m)
		g.Edges = append(g.Edges, edges...)
	}
}

// onlyFirst leaves the initial marking alone.
func onlyFirst(g *api.Graph) {
	g.States, g.Edges = g.States[:1], nil
}

// special is cycle with an inhibitor arc, a priority and a capacity, none of which matters.
func special() api.Net {
	n := cycle()
	n.Places[1].Cap = 9
	n.Trans[0].Inh, n.Trans[1].Prio = nettest.Arcs(1, 3), 4
	return n
}

// numbered names the numbers at which checks fail.
type numbered struct {
	word    string
	numbers []int
}

// expected returns the findings, in the order of Words.
func expected(t *testing.T, lists []numbered) []Finding {
	t.Helper()
	var all []Finding
	for _, l := range lists {
		for _, i := range l.numbers {
			all = append(all, Finding{slices.Index(Words(), l.word), i})
		}
	}
	if !slices.IsSortedFunc(all, func(a, b Finding) int { return a.Check - b.Check }) {
		t.Fatal(lists)
	}
	return all
}

func TestWrongGraphs(t *testing.T) {
	two, pair := cycle(), nettest.Marked(nettest.Ordinary(4, ends{{0}, {1}}, ends{{1}, {0}}, ends{{2}, {3}}, ends{{3}, {2}}), 0, 2)
	two.Places[0].Init = 2
	for i, c := range []struct {
		n      api.Net
		change func(g *api.Graph)
		want   []numbered
	}{
		{cycle(), func(*api.Graph) {}, nil},
		{special(), func(*api.Graph) {}, nil},
		{
			// A state too many, which is a deadlock as it has no edges.
			cycle(), added([]int{2, 0}),
			[]numbered{
				{"tree", []int{2}}, {"bounds", []int{0}}, {"stubborn", []int{2}}, {"symmetry", []int{2}}, {"prefix", []int{2}}, {"deadlock", []int{2}},
				{"semiflow", []int{2}}, {"equation", []int{2}}, {"reduction", []int{0}}, {"rank", []int{0}}, {"complement", []int{2}},
			},
		},
		{
			// The same for a net that is not plain: the other checks are left out.
			special(), added([]int{2, 0}),
			[]numbered{{"symmetry", []int{2}}, {"semiflow", []int{2}}, {"complement", []int{2}}},
		},
		{
			// The same for a net that is not safe.
			two, added([]int{3, 0}),
			[]numbered{
				{"tree", []int{3}}, {"bounds", []int{0}}, {"stubborn", []int{3}}, {"symmetry", []int{3}},
				{"semiflow", []int{3}}, {"equation", []int{3}}, {"reduction", []int{0}}, {"rank", []int{0}}, {"complement", []int{3}},
			},
		},
		{
			// The same for a net that is not connected. Its automorphism exchanges both parts.
			pair, added([]int{0, 1, 1, 1}),
			[]numbered{
				{"tree", []int{4}}, {"stubborn", []int{4}}, {"symmetry", []int{4}}, {"prefix", []int{4}}, {"deadlock", []int{4}},
				{"semiflow", []int{4}}, {"equation", []int{4}}, {"reduction", []int{0}}, {"complement", []int{4}},
			},
		},
		{
			// A state is missing.
			cycle(), onlyFirst,
			[]numbered{
				{"bounds", []int{1}}, {"stubborn", []int{0}}, {"symmetry", []int{0}}, {"prefix", []int{0}}, {"deadlock", []int{0}},
				{"reduction", []int{0}}, {"rank", []int{0}}, {"complement", []int{0, 1}},
			},
		},
		{
			// A deadlock that cannot be reached: the temporal formulas contradict each other.
			cycle(), added([]int{0, 0}),
			[]numbered{
				{"stubborn", []int{2}}, {"symmetry", []int{2}}, {"prefix", []int{2}}, {"deadlock", []int{0}}, {"semiflow", []int{2}}, {"equation", []int{2}},
				{"reduction", []int{0}}, {"rank", []int{0}}, {"complement", []int{2}},
			},
		},
		{
			// The same deadlock with an edge to it, which the prefix does not have.
			cycle(), added([]int{0, 0}, api.Edge{From: 0, Trans: 0, To: 2}),
			[]numbered{
				{"stubborn", []int{2}}, {"symmetry", []int{2}}, {"prefix", []int{2}}, {"deadlock", []int{2}}, {"semiflow", []int{2}}, {"trap", []int{0}},
				{"equation", []int{2}}, {"reduction", []int{0}}, {"rank", []int{0}}, {"complement", []int{0, 2}},
			},
		},
		{
			// Edges that empty a trap and fill a siphon, between which nothing may fire.
			cycle(), added([]int{0, 0}, api.Edge{From: 1, Trans: 1, To: 2}, api.Edge{From: 2, Trans: 0, To: 0}),
			[]numbered{
				{"symmetry", []int{2}}, {"prefix", []int{2}}, {"deadlock", []int{2}}, {"semiflow", []int{2}}, {"trap", []int{1, 2}}, {"equation", []int{2}},
				{"complement", []int{1, 2}},
			},
		},
		{
			// Another marking.
			cycle(), func(g *api.Graph) { g.States[1] = []int{0, 3} },
			[]numbered{
				{"tree", []int{1}}, {"bounds", []int{1}}, {"symmetry", []int{0, 1}}, {"prefix", []int{0, 1}}, {"semiflow", []int{1}}, {"equation", []int{1}},
				{"complement", []int{1}},
			},
		},
		{
			// Another edge.
			cycle(), func(g *api.Graph) { g.Edges[1].To = 1 },
			[]numbered{{"reduction", []int{0}}, {"rank", []int{0}}, {"complement", []int{1}}},
		},
		{
			// A deadlock with an edge, by which everything seems to be live.
			consumer(1), func(g *api.Graph) { g.Edges = append(g.Edges, api.Edge{From: 1, Trans: 0, To: 0}) },
			[]numbered{{"stubborn", []int{1}}, {"deadlock", []int{1}}, {"trap", []int{1}}, {"reduction", []int{0}}, {"rank", []int{0}}, {"complement", []int{1}}},
		},
	} {
		found := list(changed(t, c.n, c.change).checks()...)
		if want := expected(t, c.want); !slices.Equal(found, want) {
			t.Errorf("case %d: %v, not %v", i, found, want)
		}
	}
}

// TestChecksOfNet checks that none is missing, also if it finds nothing.
func TestChecksOfNet(t *testing.T) {
	checks := changed(t, cycle(), func(*api.Graph) {}).checks()
	for i, c := range checks {
		if c.index != i {
			t.Error(i, c.index)
		}
	}
	if count := len(checks); Words()[count-1] != "complement" {
		t.Error(count)
	}
}

// numbers returns what a check yields.
func numbers(seq func(yield func(int) bool)) []int {
	return slices.Collect(seq)
}

func TestCover(t *testing.T) {
	correct := changed(t, cycle(), func(*api.Graph) {})
	set, _, _ := mincover.Set(cycle(), 100)
	for i, c := range []struct {
		set  [][]int
		want []int
	}{
		{set, nil},
		// The set has a marking too many, which is next to both states, or to one.
		{append(slices.Clone(set), []int{1, 1}), []int{0, 1}},
		{append(slices.Clone(set), []int{0, 2}), []int{1}},
		// It lacks one.
		{set[:1], []int{0}},
		{nil, []int{0, 1}},
	} {
		if got := numbers(correct.contradictions(c.set)); !slices.Equal(got, c.want) {
			t.Error(i, got)
		}
	}
	if l := (coverage{subject{graph: api.Graph{States: [][]int{{0, 1}, {1, 1}, {api.MaxTokens, 0}}}, net: cycle()}}).near(); !slices.EqualFunc(l, [][]int{
		{0, 1}, {1, 1}, {api.MaxTokens, 0}, {2, 1}, {0, 2}, {1, 2}, {api.MaxTokens, 1},
	}, slices.Equal[[]int]) {
		t.Error(l)
	}
}

// TestCoverableInParts compares the division of markings into parts with the analysis of each marking.
func TestCoverableInParts(t *testing.T) {
	r := rand.New(rand.NewSource(24))
	kinds := map[bool]int{}
	for seed := range uint64(200) {
		n := nettest.Random(seed, shapes[0])
		var markings, can, cannot [][]int
		for range r.Intn(20) {
			var m []int
			for range n.Places {
				m = append(m, r.Intn(4))
			}
			coverable, e := backward.Coverable(n, [][]int{m}, basisLimit)
			if e != api.OK {
				continue
			}
			markings = append(markings, m)
			if coverable {
				can = append(can, m)
			} else {
				cannot = append(cannot, m)
			}
			kinds[coverable]++
		}
		c := coverage{subject{net: n}}
		var gotCan, gotCannot [][]int
		allCan := c.coverable(markings, func(m []int) { gotCan = append(gotCan, m) })
		allCannot := c.notCoverable(markings, func(m []int) { gotCannot = append(gotCannot, m) })
		if !allCan || !allCannot || !slices.EqualFunc(gotCan, can, slices.Equal[[]int]) || !slices.EqualFunc(gotCannot, cannot, slices.Equal[[]int]) {
			t.Fatal(n, markings, gotCan, gotCannot)
		}
	}
	if kinds[true] < 100 || kinds[false] < 100 {
		t.Error(kinds)
	}
	// A predecessor would have too many tokens; both ends stay before it, and the first error ends both.
	c := coverage{subject{net: nettest.Ordinary(2, ends{{0}, {1}})}}
	over := []int{api.MaxTokens, 1}
	var found [][]int
	add := func(m []int) { found = append(found, m) }
	if c.coverable([][]int{{0, 0}, over, {0, 0}}, add) || c.notCoverable([][]int{{1, 0}, over, {1, 0}}, add) {
		t.Error("no error")
	}
	if !slices.EqualFunc(found, [][]int{{0, 0}, {1, 0}}, slices.Equal[[]int]) {
		t.Error(found)
	}
}

func TestWrongSiphonsAndTraps(t *testing.T) {
	a := changed(t, cycle(), func(*api.Graph) {})
	for i, c := range []struct {
		siphons, traps []uint64
		want           []int
	}{
		{nil, nil, nil},
		{[]uint64{3}, []uint64{3}, nil},
		{[]uint64{3, 1}, []uint64{3}, []int{1}},
		{[]uint64{3}, []uint64{1, 3}, []int{0}},
		{[]uint64{2}, []uint64{1}, []int{0}},
		{[]uint64{1}, []uint64{1}, []int{0, 1}},
	} {
		if got := numbers(a.crossing(c.siphons, c.traps)); !slices.Equal(got, c.want) {
			t.Error(i, got)
		}
	}
}

// TestTrapOfManyPlaces has more places than those for which there are lists of siphons and traps.
func TestTrapOfManyPlaces(t *testing.T) {
	list := make([]ends, 13)
	for p := range list {
		list[p] = ends{{p}, {(p + 1) % len(list)}}
	}
	n := nettest.Marked(nettest.Ordinary(len(list), list...), 0)
	if got := numbers(changed(t, n, func(*api.Graph) {}).trap()); len(got) > 0 {
		t.Error(got)
	}
	lost := added(make([]int, len(list)), api.Edge{From: 5, Trans: 5, To: 13}, api.Edge{From: 13, Trans: 0, To: 2})
	if got := numbers(changed(t, n, lost).trap()); !slices.Equal(got, []int{5, 13}) {
		t.Error(got)
	}
}

func TestReductionNotBounded(t *testing.T) {
	a := changed(t, nettest.Ordinary(1), func(*api.Graph) {})
	a.changes.net = producer()
	if got := numbers(a.reduction()); !slices.Equal(got, []int{0}) {
		t.Error(got)
	}
}

func TestWrongColoredMarkings(t *testing.T) {
	c := api.ColorNet{
		Name: "n", Sets: []api.ColorSet{{Name: "c", Values: []string{"a", "b"}}}, Places: []api.ColorPlace{{Name: "p", Init: []int{1, 0}}},
		Trans: []api.ColorTrans{{
			Name: "t", Vars: []api.Var{{Name: "x"}},
			Pre:  []api.ColorArc{{Terms: []api.Term{{W: 1, Kind: api.Value}}}},
			Post: []api.ColorArc{{Terms: []api.Term{{W: 1, Kind: api.Succ}}}},
		}},
	}
	markings, complete, e := colored.Explore(c, 100)
	if len(markings) != 2 || !complete || e != api.OK {
		t.Fatal(markings, complete, e)
	}
	other := [][]int{{1, 1}}
	for i, k := range []struct {
		markings [][][]int
		want     []int
	}{
		{markings, nil},
		{markings[:1], []int{1}},
		{append(slices.Clone(markings), other), []int{2}},
		{[][][]int{markings[0], other}, []int{1}},
		{[][][]int{markings[1], markings[0]}, []int{0, 1}},
	} {
		if got := numbers(colors{c, k.markings}.colored()); !slices.Equal(got, k.want) {
			t.Error(i, got)
		}
	}
}

func TestWrongVerdicts(t *testing.T) {
	for _, f := range []flow{{true, false}, {false, true}} {
		if got := numbers(f.sound()); !slices.Equal(got, []int{0}) {
			t.Error(f, got)
		}
	}
	for _, f := range []flow{{true, true}, {false, false}} {
		if got := numbers(f.sound()); len(got) > 0 {
			t.Error(f, got)
		}
	}
	n, _ := synth.Synthesize(ring(3))
	if got := numbers(synthesis{ring(3), n}.synth()); len(got) > 0 {
		t.Error(got)
	}
	n.Places[0].Init = 1 - n.Places[0].Init
	if got := numbers(synthesis{ring(3), n}.synth()); !slices.Equal(got, []int{0}) {
		t.Error(got)
	}
}

func TestWrongAlignments(t *testing.T) {
	n := sequence()
	log := [][]string{{"t0"}, {"t0", "x"}, nil, {"t0"}}
	final := []int{0, 1}
	for i, c := range []struct {
		change            func(best []alignment)
		aligned, replayed []int
	}{
		{func([]alignment) {}, nil, nil},
		{func(best []alignment) { best[0].cost, best[1].cost = 1, 0 }, []int{0, 1}, []int{0, 1}},
		{func(best []alignment) { best[3].cost = 2 }, []int{3}, []int{3}},
		{func(best []alignment) { best[1].moves, best[2].moves = best[0].moves, nil }, []int{1, 2}, nil},
		// Moves that are no alignment, with their cost.
		{func(best []alignment) { best[1].moves = best[1].moves[1:] }, []int{1}, nil},
		// An alignment that is not the best one, with its cost.
		{
			func(best []alignment) {
				best[0] = alignment{moves: []api.Move{{Kind: api.InLog, Trans: -1}, {Kind: api.InNet}}, cost: 2}
			}, nil, []int{0},
		},
		// Without an alignment, there is nothing to compare.
		{func(best []alignment) { best[0] = alignment{e: api.ErrNone} }, nil, nil},
	} {
		a := auditOfLog(n, final, log, 100)
		c.change(a.alignments.best)
		if got := numbers(a.align()); !slices.Equal(got, c.aligned) {
			t.Error(i, "align", got)
		}
		if got := numbers(a.replay()); !slices.Equal(got, c.replayed) {
			t.Error(i, "replay", got)
		}
	}
}

func TestReplayLeftOut(t *testing.T) {
	silent, prior := sequence(), sequence()
	silent.Trans[0].Name = "_t"
	prior.Trans[0].Prio = 1
	for i, n := range []api.Net{silent, prior} {
		a := auditOfLog(n, []int{0, 1}, [][]string{nil}, 100)
		a.replays.best[0].cost = 7
		if got := numbers(a.replay()); len(got) > 0 {
			t.Error(i, got)
		}
		if got := numbers(a.align()); !slices.Equal(got, []int{0}) {
			t.Error(i, got)
		}
	}
}

// TestCosts checks that a move of the log costs 1, and so does one of the net.
func TestCosts(t *testing.T) {
	a := auditOfLog(sequence(), []int{0, 1}, [][]string{{"x", "y"}}, 100)
	if b := a.alignments.best[0]; b.e != api.OK || b.cost != 3 || align.Total(align.Cost{Log: 1, Net: 1}, b.moves) != 3 {
		t.Error(b)
	}
}

// TestStopping checks that the findings end where they are not wanted any more.
func TestStopping(t *testing.T) {
	a := changed(t, cycle(), added([]int{2, 0}))
	count := 0
	for range findings(a.checks()) {
		count++
		if count == 3 {
			break
		}
	}
	if count != 3 {
		t.Error(count)
	}
}
