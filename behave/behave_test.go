package behave

import (
	"math"
	"math/rand"
	"slices"
	"strconv"
	"testing"

	"petrinet/api"
	"petrinet/explore"
	"petrinet/nettest"
)

// withTrans returns a valid net with that many transitions.
func withTrans(count int) api.Net {
	n := api.Net{Name: "n", Places: []api.Place{{Name: "p"}}}
	for t := range count {
		n.Trans = append(n.Trans, api.Trans{Name: "t" + strconv.Itoa(t)})
	}
	return n
}

// made returns a complete graph with states of one place, and edges given as From, Trans and To.
func made(states int, edges ...[3]int) api.Graph {
	g := api.Graph{Complete: true}
	for i := range states {
		g.States = append(g.States, []int{i})
	}
	for _, e := range edges {
		g.Edges = append(g.Edges, api.Edge{From: e[0], Trans: e[1], To: e[2]})
	}
	return g
}

func graphOf(t *testing.T, n api.Net) api.Graph {
	t.Helper()
	g, e := explore.Explore(n, api.MaxStates)
	if e != api.OK || !g.Complete {
		t.Fatal(n, e)
	}
	return g
}

// cycle has a token that moves from p to q and back.
func cycle() api.Net {
	n := nettest.Ordinary(2, [2][]int{{0}, {1}}, [2][]int{{1}, {0}})
	n.Places[0].Init = 1
	return n
}

func TestExample(t *testing.T) {
	g := graphOf(t, cycle())
	if l := Live(cycle(), g); !slices.Equal(l, []int{0, 1}) {
		t.Error(l)
	}
	if l := Home(g); !slices.Equal(l, []int{0, 1}) || !Reversible(g) {
		t.Error(l)
	}
	if Level(cycle(), g, 0) != 4 || !Persistent(cycle(), g) || !Safe(g) || len(Deadlocks(g)) > 0 || len(Never(cycle(), g)) > 0 || !slices.Equal(Bounds(g), []int{1, 1}) {
		t.Error(g)
	}
}

func TestBounds(t *testing.T) {
	for _, c := range []struct {
		states [][]int
		bounds []int
		safe   bool
	}{
		{[][]int{{}}, nil, true},
		{[][]int{{1, 0, 1}}, []int{1, 0, 1}, true},
		{[][]int{{0, 0}, {2}, {1, 1}}, []int{2, 1}, false},
		{[][]int{{-3, 1}, {-7}, {-5, 0, -2}}, []int{-3, 1, -2}, true},
		{[][]int{nil, {math.MinInt}, {0, 0, math.MaxInt}}, []int{0, 0, math.MaxInt}, false},
	} {
		g := api.Graph{States: c.states, Complete: true}
		if b := Bounds(g); !slices.Equal(b, c.bounds) || Safe(g) != c.safe {
			t.Error(c, b)
		}
	}
}

func TestLevels(t *testing.T) {
	// Transition 0 leads into a cycle of 1 and 2; 3 loops at the beginning only; 4 leads to a state in the cycle twice; 5 is on no edge.
	g := made(3, [3]int{0, 0, 1}, [3]int{1, 1, 2}, [3]int{2, 2, 1}, [3]int{0, 3, 0}, [3]int{0, 4, 2}, [3]int{0, 4, 1})
	n := withTrans(6)
	for trans, level := range []int{1, 4, 4, 3, 1, 0} {
		if l := Level(n, g, trans); l != level {
			t.Error(trans, l)
		}
	}
	for _, trans := range []int{-1, 6, math.MinInt, math.MaxInt} {
		if l := Level(n, g, trans); l != -1 {
			t.Error(trans, l)
		}
	}
	if l := Live(n, g); !slices.Equal(l, []int{1, 2}) {
		t.Error(l)
	}
	if l := Never(n, g); !slices.Equal(l, []int{5}) {
		t.Error(l)
	}
	if l := Home(g); !slices.Equal(l, []int{1, 2}) || Reversible(g) {
		t.Error(l)
	}
}

func TestOtherGraphs(t *testing.T) {
	// The only edges between states carry no transition of the net; the others are ignored.
	g := made(2, [3]int{0, 9, 1}, [3]int{1, -1, 0}, [3]int{0, 0, 2}, [3]int{-1, 0, 0}, [3]int{math.MaxInt, 0, math.MinInt})
	n := withTrans(1)
	if len(Deadlocks(g)) > 0 || !slices.Equal(Never(n, g), []int{0}) || len(Live(n, g)) > 0 || Level(n, g, 0) != 0 || !slices.Equal(Home(g), []int{0, 1}) {
		t.Error(Deadlocks(g), Never(n, g), Live(n, g), Home(g))
	}
	if Persistent(n, g) != true {
		t.Error("one Trans from each state")
	}
	// A deadlock that cannot be reached from state 0 counts.
	g = made(3, [3]int{0, 0, 1}, [3]int{1, 0, 0})
	if !slices.Equal(Deadlocks(g), []int{2}) || len(Home(g)) > 0 || Reversible(g) || len(Live(n, g)) > 0 || Level(n, g, 0) != 3 {
		t.Error(Deadlocks(g), Home(g))
	}
}

func TestPersistent(t *testing.T) {
	for _, c := range []struct {
		g          api.Graph
		persistent bool
	}{
		{made(1), true},
		{made(1, [3]int{0, 0, 0}, [3]int{0, 1, 0}), true},
		{made(4, [3]int{0, 0, 1}, [3]int{0, 1, 2}, [3]int{1, 1, 3}, [3]int{2, 0, 3}), true},
		{made(4, [3]int{0, 0, 1}, [3]int{0, 1, 2}, [3]int{1, 1, 3}), false},
		{made(4, [3]int{0, 0, 1}, [3]int{0, 1, 2}, [3]int{2, 0, 3}), false},
		// Two edges with one Trans do not disturb each other.
		{made(3, [3]int{0, 0, 1}, [3]int{0, 0, 2}), true},
		// Two edges to one state, where only one of them remains possible.
		{made(2, [3]int{0, 0, 1}, [3]int{0, 1, 1}, [3]int{1, 0, 1}), false},
		{made(2, [3]int{0, 0, 1}, [3]int{0, 1, 1}, [3]int{1, 0, 1}, [3]int{1, 1, 1}), true},
		// A self-loop of a transition that is not of the net disables nothing, but is disabled itself.
		{made(2, [3]int{0, 7, 0}, [3]int{0, 0, 1}), false},
		{made(2, [3]int{0, 7, 0}, [3]int{0, 0, 1}, [3]int{1, 7, 9}), false},
		{made(2, [3]int{0, 7, 0}, [3]int{0, 0, 1}, [3]int{1, 7, 1}), true},
	} {
		if p := Persistent(withTrans(2), c.g); p != c.persistent {
			t.Error(c.g, p)
		}
	}
}

func TestNothing(t *testing.T) {
	good, partial, stopped := made(1, [3]int{0, 0, 0}), made(1, [3]int{0, 0, 0}), made(1)
	partial.Complete, stopped.Complete = false, false
	unnamed := withTrans(2)
	unnamed.Name = ""
	for i, c := range []struct {
		n api.Net
		g api.Graph
	}{
		{withTrans(1), api.Graph{}},
		{withTrans(1), api.Graph{Complete: true}},
		{withTrans(1), api.Graph{Complete: true, Edges: good.Edges}},
		{withTrans(1), partial},
		{withTrans(1), stopped},
		{api.Net{}, good},
		{unnamed, good},
	} {
		if len(Never(c.n, c.g)) > 0 || len(Live(c.n, c.g)) > 0 || Level(c.n, c.g, 0) != -1 || Persistent(c.n, c.g) {
			t.Error(i)
		}
		if i < 5 && (len(Bounds(c.g)) > 0 || Safe(c.g) || len(Deadlocks(c.g)) > 0 || len(Home(c.g)) > 0 || Reversible(c.g)) {
			t.Error(i)
		}
	}
	// Where nothing moves, Never would list the transition of a complete graph.
	if idle := made(1); !slices.Equal(Never(withTrans(1), idle), []int{0}) || Level(withTrans(1), idle, 0) != 0 {
		t.Error("idle")
	}
}

// byDefinition answers the questions of P15.2 to P15.5 by the definitions.
type byDefinition struct {
	g     api.Graph
	edges []api.Edge
	reach [][]bool
}

func define(g api.Graph) byDefinition {
	d := byDefinition{g: g}
	for i := range g.States {
		d.reach = append(d.reach, make([]bool, len(g.States)))
		d.reach[i][i] = true
	}
	for _, e := range g.Edges {
		if min(e.From, e.To) >= 0 && max(e.From, e.To) < len(g.States) {
			d.edges = append(d.edges, e)
			d.reach[e.From][e.To] = true
		}
	}
	for k := range g.States {
		for i := range g.States {
			for j := range g.States {
				d.reach[i][j] = d.reach[i][j] || d.reach[i][k] && d.reach[k][j]
			}
		}
	}
	return d
}

func (d byDefinition) has(property func(e api.Edge) bool) bool {
	return slices.ContainsFunc(d.edges, property)
}

func (d byDefinition) live(t int) bool {
	for i := range d.g.States {
		if !d.has(func(e api.Edge) bool { return e.Trans == t && d.reach[i][e.From] }) {
			return false
		}
	}
	return true
}

func (d byDefinition) level(t int) int {
	switch {
	case d.live(t):
		return 4
	case d.has(func(e api.Edge) bool { return e.Trans == t && d.reach[e.To][e.From] }):
		return 3
	case d.has(func(e api.Edge) bool { return e.Trans == t }):
		return 1
	}
	return 0
}

func (d byDefinition) home(i int) bool {
	for j := range d.g.States {
		if !d.reach[j][i] {
			return false
		}
	}
	return true
}

func (d byDefinition) persistent() bool {
	for _, first := range d.edges {
		for _, second := range d.edges {
			if first.From == second.From && first.Trans != second.Trans && !d.has(func(e api.Edge) bool { return e.From == first.To && e.Trans == second.Trans }) {
				return false
			}
		}
	}
	return true
}

func compare(t *testing.T, n api.Net, g api.Graph) {
	t.Helper()
	d := define(g)
	states, trans := len(g.States), len(n.Trans)
	dead := those(states, func(i int) bool { return !d.has(func(e api.Edge) bool { return e.From == i }) })
	if l := Deadlocks(g); !slices.Equal(l, dead) {
		t.Error("deadlocks", g, l)
	}
	if l := Never(n, g); !slices.Equal(l, those(trans, func(t int) bool { return d.level(t) == 0 })) {
		t.Error("never", g, l)
	}
	if l := Live(n, g); !slices.Equal(l, those(trans, d.live)) {
		t.Error("live", g, l)
	}
	for u := range trans {
		if l := Level(n, g, u); l != d.level(u) {
			t.Error("level", g, u, l)
		}
	}
	if l := Home(g); !slices.Equal(l, those(states, d.home)) {
		t.Error("home", g, l)
	}
	if Reversible(g) != d.home(0) {
		t.Error("reversible", g)
	}
	if Persistent(n, g) != d.persistent() {
		t.Error("persistent", g)
	}
}

func TestByDefinition(t *testing.T) {
	r := rand.New(rand.NewSource(15))
	counts := map[string]int{}
	for range 4000 {
		n := withTrans(1 + r.Intn(3))
		g := made(1 + r.Intn(6))
		for range r.Intn(12) {
			g.Edges = append(g.Edges, api.Edge{From: r.Intn(len(g.States)+2) - 1, Trans: r.Intn(len(n.Trans)+2) - 1, To: r.Intn(len(g.States)+2) - 1})
		}
		compare(t, n, g)
		if len(Live(n, g)) > 0 {
			counts["live"]++
		}
		if len(Home(g)) > 0 && len(g.States) > 1 {
			counts["home"]++
		}
		if Persistent(n, g) && len(g.Edges) > 3 {
			counts["persistent"]++
		}
		for u := range n.Trans {
			counts["level "+strconv.Itoa(Level(n, g, u))]++
		}
	}
	for _, name := range []string{"live", "home", "persistent", "level 0", "level 1", "level 3", "level 4"} {
		if counts[name] < 100 {
			t.Error("too few cases", counts)
		}
	}
}

// TestStateGraphs checks P15.6 on state graphs of nets, and all other promises.
func TestStateGraphs(t *testing.T) {
	homes, deads := 0, 0
	for seed := range uint64(5000) {
		n := nettest.Random(seed, nettest.Shape{Places: 4, Trans: 5, Tokens: 2, Weight: 2, Prio: int(seed % 2), Inh: int(seed % 3)})
		g, e := explore.Explore(n, 60)
		if e != api.OK || !g.Complete {
			continue
		}
		if len(g.States) <= 12 {
			compare(t, n, g)
		}
		dead, home, live := Deadlocks(g), Home(g), Live(n, g)
		if len(dead) > 0 && len(live) > 0 {
			t.Error("live in spite of a deadlock", n)
		}
		if len(dead) > 0 && len(home) > 0 && (len(dead) > 1 || !slices.Equal(home, dead)) {
			t.Error("home states beside a deadlock", n)
		}
		if Reversible(g) && len(live)+len(Never(n, g)) != len(n.Trans) {
			t.Error("neither live nor never fired", n)
		}
		if len(home) > 1 {
			homes++
		}
		if len(dead) > 0 && len(home) > 0 {
			deads++
		}
	}
	if homes < 50 || deads < 50 {
		t.Error("too few cases", homes, deads)
	}
}

func TestSharesNoMemory(t *testing.T) {
	g := made(3, [3]int{0, 0, 1}, [3]int{1, 0, 0}, [3]int{2, 0, 0})
	g.States[0][0] = 5
	n := withTrans(2)
	b := Bounds(g)
	b[0] = 9
	if g.States[0][0] != 5 || len(g.Edges) != 3 || g.Edges[2] != (api.Edge{From: 2, Trans: 0, To: 0}) {
		t.Error(g)
	}
	g.Edges = []api.Edge{{From: 1, Trans: 1, To: 0}, {From: 0, Trans: 1, To: 1}, {From: 0, Trans: 0, To: 1}}
	Persistent(n, g)
	if g.Edges[0].From != 1 || g.Edges[1].Trans != 1 {
		t.Error("edges were sorted in place")
	}
}

// TestLarge covers the depth and the size of graphs.
func TestLarge(t *testing.T) {
	const states = api.MaxStates
	g := made(states)
	for i := range states {
		for u := range api.MaxTrans {
			g.Edges = append(g.Edges, api.Edge{From: i, Trans: u, To: (i + 1) % states})
		}
	}
	n := withTrans(api.MaxTrans)
	if len(Live(n, g)) != api.MaxTrans || len(Home(g)) != states || !Persistent(n, g) || len(Deadlocks(g)) > 0 {
		t.Error("large cycle")
	}
	// Many different Trans between two states.
	g = made(2)
	for u := range 1 << 17 {
		g.Edges = append(g.Edges, api.Edge{From: u % 2, Trans: u / 2, To: (u + 1) % 2})
	}
	if !Persistent(n, g) {
		t.Error("many transitions")
	}
}
