package explore

import (
	"math"
	"math/rand"
	"slices"
	"testing"

	"petrinet/api"
	"petrinet/firing"
	"petrinet/marking"
	"petrinet/net"
	"petrinet/nettest"
)

var arcs = nettest.Arcs

func sameGraph(a, b api.Graph) bool {
	return a.Complete == b.Complete && slices.Equal(a.Edges, b.Edges) && slices.EqualFunc(a.States, b.States, slices.Equal[[]int])
}

func isZero(g api.Graph) bool {
	return !g.Complete && len(g.States) == 0 && len(g.Edges) == 0
}

// moving has one transition t, which moves a token from p to q.
func moving() api.Net {
	return api.Net{Name: "n", Places: []api.Place{{Name: "p", Init: 1}, {Name: "q"}}, Trans: []api.Trans{{Name: "t", Pre: arcs(0, 1), Post: arcs(1, 1)}}}
}

// source has one transition, which produces tokens.
func source(tokens, weight int) api.Net {
	return api.Net{Name: "n", Places: []api.Place{{Name: "p", Init: tokens}}, Trans: []api.Trans{{Name: "t", Post: arcs(0, weight)}}}
}

func TestExample(t *testing.T) {
	g, e := Explore(moving(), 10)
	want := api.Graph{States: [][]int{{1, 0}, {0, 1}}, Edges: []api.Edge{{From: 0, Trans: 0, To: 1}}, Complete: true}
	if e != api.OK || !sameGraph(g, want) {
		t.Fatal(g, e)
	}
	if s := Text(moving(), g); s != "states 2 edges 1 complete\n0 t 1\n" {
		t.Errorf("%q", s)
	}
}

func TestOrder(t *testing.T) {
	// Two independent transitions and one that needs both: states are found breadth-first.
	n := nettest.Ordinary(5, [2][]int{{0}, {2}}, [2][]int{{1}, {3}}, [2][]int{{2, 3}, {4}}, [2][]int{{0}, {0}})
	n.Places[0].Init, n.Places[1].Init = 1, 1
	g, e := Explore(n, api.MaxStates)
	want := api.Graph{
		States:   [][]int{{1, 1, 0, 0, 0}, {0, 1, 1, 0, 0}, {1, 0, 0, 1, 0}, {0, 0, 1, 1, 0}, {0, 0, 0, 0, 1}},
		Edges:    []api.Edge{{From: 0, Trans: 0, To: 1}, {From: 0, Trans: 1, To: 2}, {From: 0, Trans: 3, To: 0}, {From: 1, Trans: 1, To: 3}, {From: 2, Trans: 0, To: 3}, {From: 2, Trans: 3, To: 2}, {From: 3, Trans: 2, To: 4}},
		Complete: true,
	}
	if e != api.OK || !sameGraph(g, want) {
		t.Error(g, e)
	}
}

func TestPartial(t *testing.T) {
	g, e := Explore(source(0, 1), 3)
	want := api.Graph{States: [][]int{{0}, {1}, {2}}, Edges: []api.Edge{{From: 0, Trans: 0, To: 1}, {From: 1, Trans: 0, To: 2}}}
	if e != api.OK || !sameGraph(g, want) {
		t.Error(g, e)
	}
	// An edge back to a known state remains, also after the first state that is too many.
	n := moving()
	n.Trans = append(n.Trans, api.Trans{Name: "u", Pre: arcs(0, 1), Post: arcs(0, 1)})
	g, e = Explore(n, 1)
	if e != api.OK || !sameGraph(g, api.Graph{States: [][]int{{1, 0}}, Edges: []api.Edge{{From: 0, Trans: 1, To: 0}}}) {
		t.Error(g, e)
	}
	g, e = Explore(n, 2)
	if e != api.OK || !g.Complete || len(g.States) != 2 || len(g.Edges) != 2 {
		t.Error(g, e)
	}
	if g, e = Explore(source(0, 1), api.MaxStates); e != api.OK || g.Complete || len(g.States) != api.MaxStates || len(g.Edges) != api.MaxStates-1 {
		t.Error(len(g.States), len(g.Edges), e)
	}
}

func TestExploreErrors(t *testing.T) {
	const most = api.MaxTokens
	idle := api.Net{Name: "n", Places: []api.Place{{Name: "p", Init: most}}}
	// The first transition leads to a state that is too many, the second one to too many tokens.
	late := api.Net{Name: "n", Places: []api.Place{{Name: "p", Init: most}, {Name: "q"}}, Trans: []api.Trans{{Name: "t", Post: arcs(1, 1)}, {Name: "u", Post: arcs(0, 1)}}}
	early := late
	early.Trans = []api.Trans{late.Trans[1], late.Trans[0]}
	early.Trans[0].Name, early.Trans[1].Name = "t", "u"
	bad := moving()
	bad.Trans[0].Name = "p"
	for i, c := range []struct {
		n     api.Net
		limit int
		e     api.Errno
	}{
		{api.Net{}, 0, api.ErrName},
		{bad, 0, api.ErrTwice},
		{source(most, 1), 0, api.ErrRange},
		{moving(), 0, api.ErrRange},
		{moving(), -1, api.ErrRange},
		{moving(), api.MaxStates + 1, api.ErrRange},
		{moving(), math.MaxInt, api.ErrRange},
		{moving(), math.MinInt, api.ErrRange},
		{moving(), 1, api.OK},
		{moving(), api.MaxStates, api.OK},
		{idle, 1, api.OK},
		{source(most, 1), 1, api.ErrOver},
		{source(most-1, 1), 1, api.OK},
		{source(most-1, 1), 2, api.ErrOver},
		{source(most-9, 10), 1, api.ErrOver},
		{late, 1, api.ErrOver},
		{late, 5, api.ErrOver},
		{early, 5, api.ErrOver},
	} {
		if g, e := Explore(c.n, c.limit); e != c.e || e != api.OK && !isZero(g) {
			t.Errorf("case %d: %v %v, want %v", i, g, e, c.e)
		}
	}
}

func TestInhibitorsPrioritiesCapacities(t *testing.T) {
	n := api.Net{
		Name:   "n",
		Places: []api.Place{{Name: "p", Init: 0, Cap: 3}, {Name: "q", Init: 0}},
		Trans: []api.Trans{
			{Name: "t", Post: arcs(0, 1)},
			{Name: "u", Pre: arcs(0, 2), Post: arcs(1, 1), Inh: arcs(1, 1), Prio: 1},
		},
	}
	g, e := Explore(n, 100)
	want := api.Graph{
		States:   [][]int{{0, 0}, {1, 0}, {2, 0}, {0, 1}, {1, 1}, {2, 1}, {3, 1}},
		Edges:    []api.Edge{{From: 0, Trans: 0, To: 1}, {From: 1, Trans: 0, To: 2}, {From: 2, Trans: 1, To: 3}, {From: 3, Trans: 0, To: 4}, {From: 4, Trans: 0, To: 5}, {From: 5, Trans: 0, To: 6}},
		Complete: true,
	}
	if e != api.OK || !sameGraph(g, want) {
		t.Error(g, e)
	}
}

// defined returns the state graph by the definition: all edges between the given states.
func defined(t *testing.T, n api.Net, states [][]int, complete bool) api.Graph {
	g := api.Graph{States: states, Complete: complete}
	index := map[string]int{}
	for i, m := range states {
		index[marking.Text(m)] = i
	}
	for i, m := range states {
		for u := range n.Trans {
			if !firing.May(n, m, u) {
				continue
			}
			after, e := firing.Fire(n, m, u)
			if e != api.OK {
				t.Fatal(n, m, u, e)
			}
			if to, ok := index[marking.Text(after)]; ok {
				g.Edges = append(g.Edges, api.Edge{From: i, Trans: u, To: to})
			}
		}
	}
	return g
}

func TestRandomNets(t *testing.T) {
	complete, partial := 0, 0
	for seed := range uint64(400) {
		n := nettest.Random(seed, nettest.Shape{Places: 5, Trans: 5, Tokens: 2, Weight: 2, Cap: int(seed % 4), Inh: int(seed % 3), Prio: int(seed % 2)})
		for _, limit := range []int{1, 2, 5, 30, 100} {
			states, all := nettest.Reachable(n, limit)
			g, e := Explore(n, limit)
			// Reachable looks at no more than the limit permits; Explore looks at all edges of the states.
			if !all {
				partial++
			} else {
				complete++
			}
			if e != api.OK || !sameGraph(g, defined(t, n, states, all)) || !Valid(n, g) {
				t.Fatal(n, limit, g, e)
			}
		}
	}
	if complete < 300 || partial < 300 {
		t.Error(complete, partial)
	}
}

// A graph for a limit is contained in that for a greater one.
func TestLimits(t *testing.T) {
	for seed := range uint64(200) {
		n := nettest.Random(seed, nettest.Shape{Places: 4, Trans: 4, Tokens: 2, Weight: 2})
		greater, e := Explore(n, 40)
		if e != api.OK {
			t.Fatal(n, e)
		}
		for limit := 39; limit > 0; limit-- {
			g, e := Explore(n, limit)
			if e != api.OK || len(g.States) > limit || g.Complete && !sameGraph(g, greater) || !g.Complete && len(g.States) != limit {
				t.Fatal(n, limit, g, e)
			}
			between := slices.DeleteFunc(slices.Clone(greater.Edges), func(e api.Edge) bool { return e.From >= len(g.States) || e.To >= len(g.States) })
			if !slices.Equal(g.Edges, between) || !slices.EqualFunc(g.States, greater.States[:len(g.States)], slices.Equal[[]int]) {
				t.Fatal(n, limit, g, greater)
			}
		}
	}
}

func TestRunsEndAtStates(t *testing.T) {
	r := rand.New(rand.NewSource(14))
	for seed := range uint64(200) {
		n := nettest.Random(seed, nettest.Shape{Places: 4, Trans: 5, Tokens: 2, Weight: 2, Cap: 3, Inh: 2, Prio: 2})
		g, e := Explore(n, 300)
		if e != api.OK || !g.Complete {
			continue
		}
		m, at := net.Initial(n), 0
		for range 30 {
			list := firing.List(n, m)
			if len(list) == 0 {
				break
			}
			u := list[r.Intn(len(list))]
			m, _ = firing.Fire(n, m, u)
			at = Step(g, at, u)
			if at < 0 || at != Find(g, m) {
				t.Fatal(n, m, at)
			}
		}
	}
}

// unsound has edges that lead nowhere, or from nowhere, and states of any length.
func unsound() api.Graph {
	return api.Graph{
		States: [][]int{{1, 2}, nil, {1}, {1, 2}, {math.MinInt, math.MaxInt}},
		Edges: []api.Edge{
			{From: 0, Trans: 7, To: 5}, {From: 0, Trans: 7, To: 3}, {From: 2, Trans: -1, To: 2}, {From: 0, Trans: 7, To: 1}, {From: 0, Trans: 1, To: -1}, {From: 0, Trans: math.MaxInt, To: 1},
			{From: -1, Trans: 0, To: 1}, {From: 5, Trans: 0, To: 1}, {From: 0, Trans: 0, To: 3}, {From: math.MinInt, Trans: 0, To: math.MinInt},
		},
	}
}

func TestFind(t *testing.T) {
	g := unsound()
	for _, c := range []struct {
		m    []int
		want int
	}{
		{[]int{1, 2}, 0}, {nil, 1}, {[]int{}, 1}, {[]int{1}, 2}, {[]int{math.MinInt, math.MaxInt}, 4}, {[]int{1, 2, 0}, -1}, {[]int{2, 1}, -1}, {[]int{0}, -1},
	} {
		if i := Find(g, c.m); i != c.want {
			t.Error(c.m, i)
		}
	}
	if Find(api.Graph{}, nil) != -1 {
		t.Error("a graph without states")
	}
}

func TestNextStep(t *testing.T) {
	g := unsound()
	for _, c := range []struct {
		i    int
		want []api.Edge
	}{
		{0, []api.Edge{{From: 0, Trans: 7, To: 3}, {From: 0, Trans: 7, To: 1}, {From: 0, Trans: math.MaxInt, To: 1}, {From: 0, Trans: 0, To: 3}}},
		{1, nil},
		{2, []api.Edge{{From: 2, Trans: -1, To: 2}}},
		{-1, nil}, {5, nil}, {math.MinInt, nil}, {math.MaxInt, nil},
	} {
		if l := Next(g, c.i); !slices.Equal(l, c.want) {
			t.Error(c.i, l)
		}
	}
	for _, c := range []struct{ i, t, want int }{
		{0, 7, 3}, {0, math.MaxInt, 1}, {0, 0, 3}, {0, 1, -1}, {0, 2, -1}, {2, -1, 2}, {2, 0, -1}, {1, 0, -1}, {-1, 0, -1}, {5, 0, -1}, {math.MinInt, 0, -1},
	} {
		if to := Step(g, c.i, c.t); to != c.want {
			t.Error(c, to)
		}
	}
	if len(Next(api.Graph{}, 0)) != 0 || Step(api.Graph{}, 0, 0) != -1 {
		t.Error("a graph without states")
	}
}

func TestAdjacency(t *testing.T) {
	if l := Adjacency(unsound()); !slices.EqualFunc(l, [][]int{{1, 3}, nil, {2}, nil, nil}, slices.Equal[[]int]) {
		t.Error(l)
	}
	if l := Adjacency(api.Graph{Edges: []api.Edge{{}}}); len(l) != 0 {
		t.Error(l)
	}
}

func TestValid(t *testing.T) {
	n := source(0, 1)
	n.Trans = append(n.Trans, api.Trans{Name: "u", Pre: arcs(0, 1)})
	for _, limit := range []int{1, 2, 7} {
		made := func() api.Graph {
			g, _ := Explore(n, limit)
			return g
		}
		if !Valid(n, made()) || Valid(moving(), made()) || Valid(api.Net{}, made()) {
			t.Error(limit)
		}
		for i, change := range []func(g *api.Graph){
			func(g *api.Graph) { g.Complete = true },
			func(g *api.Graph) { g.States[0][0]++ },
			func(g *api.Graph) { g.States = append(g.States, []int{limit}) },
			func(g *api.Graph) { g.States[limit-1] = append(g.States[limit-1], 0) },
			func(g *api.Graph) { g.States = g.States[:limit-1] },
			func(g *api.Graph) { g.Edges = append(g.Edges, api.Edge{}) },
		} {
			g := made()
			if change(&g); Valid(n, g) {
				t.Error(limit, i, g)
			}
		}
	}
	g, _ := Explore(n, 3)
	g.Edges[0], g.Edges[1] = g.Edges[1], g.Edges[0]
	if Valid(n, g) {
		t.Error("edges in another order")
	}
	complete, _ := Explore(moving(), 5)
	if !Valid(moving(), complete) {
		t.Error("a complete graph")
	}
	complete.Complete = false
	if Valid(moving(), complete) {
		t.Error("a complete graph that is said to be partial")
	}
	// The graph of a net that exceeds MaxTokens is not a result for any limit.
	if Valid(source(api.MaxTokens, 1), api.Graph{States: [][]int{{api.MaxTokens}}}) || Valid(moving(), api.Graph{}) || Valid(moving(), api.Graph{States: make([][]int, api.MaxStates+1)}) {
		t.Error("valid")
	}
}

func TestText(t *testing.T) {
	n := moving()
	g, _ := Explore(n, 1)
	if s := Text(n, g); s != "states 1 edges 0 partial\n" {
		t.Errorf("%q", s)
	}
	if s := Text(n, api.Graph{}); s != "states 0 edges 0 partial\n" {
		t.Errorf("%q", s)
	}
	// Only the edges have to fit, not the states.
	g = api.Graph{States: [][]int{nil, {1, 2, 3}}, Edges: []api.Edge{{From: 1, Trans: 0, To: 1}, {From: 0, Trans: 0, To: 1}, {From: 1, Trans: 0, To: 1}}, Complete: true}
	if s := Text(n, g); s != "states 2 edges 3 complete\n1 t 1\n0 t 1\n1 t 1\n" {
		t.Errorf("%q", s)
	}
	for _, e := range []api.Edge{{From: 2}, {From: -1}, {To: 2}, {To: -1}, {Trans: 1}, {Trans: -1}, {Trans: math.MaxInt}} {
		if s := Text(n, api.Graph{States: [][]int{{1, 0}, {0, 1}}, Edges: []api.Edge{{}, e}}); s != "" {
			t.Errorf("%v: %q", e, s)
		}
	}
	faulty := moving()
	faulty.Name = ""
	for _, n := range []api.Net{{}, faulty} {
		if s := Text(n, g) + Text(n, api.Graph{}); s != "" {
			t.Errorf("%q", s)
		}
	}
}

func TestSharesNoMemory(t *testing.T) {
	n := moving()
	g, _ := Explore(n, 5)
	g.States[0][0] = 9
	g.Edges[0].To = 9
	if again, e := Explore(n, 5); e != api.OK || again.States[0][0] != 1 || again.Edges[0].To != 1 || n.Places[0].Init != 1 {
		t.Error(again, e)
	}
	h := unsound()
	Next(h, 0)[0].To = 99
	Adjacency(h)[0][0] = 99
	if !sameGraph(h, unsound()) {
		t.Error("the argument was changed")
	}
}

func TestGreatestNet(t *testing.T) {
	n := api.Net{Name: "n"}
	for p := range api.MaxPlaces {
		n.Places = append(n.Places, api.Place{Name: "p" + string(rune('a'+p)), Init: p % 2})
	}
	for u := range api.MaxTrans {
		n.Trans = append(n.Trans, api.Trans{Name: "t" + string(rune('a'+u)), Pre: arcs(u, 1), Post: arcs((u+1)%api.MaxPlaces, 1)})
	}
	g, e := Explore(n, api.MaxStates)
	if e != api.OK || g.Complete || len(g.States) != api.MaxStates {
		t.Error(len(g.States), e)
	}
}
