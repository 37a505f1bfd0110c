package stubborn

import (
	"math"
	"math/rand"
	"slices"
	"testing"

	"petrinet/api"
	"petrinet/explore"
	"petrinet/firing"
	"petrinet/net"
	"petrinet/nettest"
)

var arcs = nettest.Arcs

// independent has two transitions without a common place.
func independent() api.Net {
	n := nettest.Ordinary(4, [2][]int{{0}, {1}}, [2][]int{{2}, {3}})
	n.Places[0].Init, n.Places[2].Init = 1, 1
	return n
}

func TestExample(t *testing.T) {
	n := independent()
	if l := Set(n, []int{1, 0, 1, 0}); !slices.Equal(l, []int{0}) {
		t.Error(l)
	}
	g, e := Reduced(n, 10)
	if e != api.OK || !g.Complete || len(g.States) != 3 || !slices.Equal(g.Edges, []api.Edge{{From: 0, Trans: 0, To: 1}, {From: 1, Trans: 1, To: 2}}) {
		t.Error(g, e)
	}
}

func TestClosure(t *testing.T) {
	// t0 and t1 share p0. t2 needs two tokens of p1 and one of p2. t3 and t4 have p1 in Post, but only t3 increases it; t5 increases p2.
	n := nettest.Ordinary(5, [2][]int{{0}, nil}, [2][]int{{0}, {4}}, [2][]int{{1, 2}, nil}, [2][]int{{3}, {1}}, [2][]int{{1}, {1}}, [2][]int{{4}, {2}})
	n.Trans[2].Pre[0].W = 2
	n.Trans[4].Pre[0].W, n.Trans[4].Post[0].W = 2, 2
	for i, c := range []struct {
		m    []int
		t    int
		want []int
	}{
		// Enabled: all that share an input place, and so on.
		{[]int{1, 0, 0, 0, 0}, 0, []int{0, 1}},
		{[]int{1, 0, 0, 0, 0}, 1, []int{0, 1}},
		// Not enabled by p0: nothing increases it.
		{[]int{0, 0, 0, 0, 0}, 0, []int{0}},
		// The least place that is short is p1, whose producer t3 lacks p3, which nothing increases.
		{[]int{0, 1, 0, 0, 0}, 2, []int{2, 3}},
		// Now p2 is short: t5 needs p4, which t1 increases; t1 needs p0.
		{[]int{0, 2, 0, 0, 0}, 2, []int{1, 2, 5}},
		{[]int{1, 2, 0, 0, 0}, 2, []int{0, 1, 2, 5}},
		// t2 and t4 share p1.
		{[]int{0, 2, 0, 0, 0}, 4, []int{1, 2, 4, 5}},
		{[]int{0, 2, 1, 0, 0}, 4, []int{2, 4}},
		{[]int{0, 0, 0, 0, 0}, 4, []int{3, 4}},
	} {
		if l := Closure(n, c.m, c.t); !slices.Equal(l, c.want) {
			t.Error(i, l)
		}
	}
	// A transition without input places is enabled and has no rivals.
	n = nettest.Ordinary(1, [2][]int{nil, {0}}, [2][]int{{0}, nil})
	if l := Closure(n, []int{0}, 0); !slices.Equal(l, []int{0}) {
		t.Error(l)
	}
	if l := Closure(n, []int{0}, 1); !slices.Equal(l, []int{0, 1}) {
		t.Error(l)
	}
}

func TestSetChoosesTheFirst(t *testing.T) {
	// Three transitions share p0, two share p1, and two share p2.
	n := nettest.Ordinary(3, [2][]int{{0}, nil}, [2][]int{{0}, nil}, [2][]int{{0}, nil}, [2][]int{{1}, nil}, [2][]int{{2}, nil}, [2][]int{{2}, nil}, [2][]int{{1}, nil})
	if l := Set(n, []int{1, 1, 1}); !slices.Equal(l, []int{3, 6}) {
		t.Error(l)
	}
	if l := Set(n, []int{1, 0, 1}); !slices.Equal(l, []int{4, 5}) {
		t.Error(l)
	}
	if l := Set(n, []int{1, 0, 0}); !slices.Equal(l, []int{0, 1, 2}) {
		t.Error(l)
	}
	if l := Set(n, []int{0, 0, 0}); len(l) != 0 {
		t.Error(l)
	}
}

func TestNothing(t *testing.T) {
	inhibited, urgent, limited := independent(), independent(), independent()
	inhibited.Trans[0].Inh = arcs(3, 1)
	urgent.Trans[1].Prio = 1
	limited.Places[1].Cap = 1
	good := []int{1, 0, 1, 0}
	for i, c := range []struct {
		n api.Net
		m []int
		t int
	}{
		{inhibited, good, 0}, {urgent, good, 0}, {limited, good, 0}, {api.Net{}, nil, 0},
		{independent(), []int{1, 0, 1}, 0}, {independent(), []int{1, 0, 1, 0, 0}, 0}, {independent(), []int{1, 0, 1, -1}, 0},
		{independent(), []int{1, 0, 1, api.MaxTokens + 1}, 0}, {independent(), nil, 0},
	} {
		if l := Closure(c.n, c.m, c.t); len(l) != 0 {
			t.Error(i, l)
		}
		if l := Set(c.n, c.m); len(l) != 0 {
			t.Error(i, l)
		}
	}
	for _, trans := range []int{-1, 2, math.MinInt, math.MaxInt} {
		if l := Closure(independent(), good, trans); len(l) != 0 {
			t.Error(trans, l)
		}
	}
}

func TestReducedErrors(t *testing.T) {
	const most = api.MaxTokens
	inhibited, urgent, limited := independent(), independent(), independent()
	inhibited.Trans[0].Inh = arcs(3, 1)
	urgent.Trans[1].Prio = 1
	limited.Places[1].Cap = 1
	over := api.Net{Name: "n", Places: []api.Place{{Name: "p", Init: most}}, Trans: []api.Trans{{Name: "t", Post: arcs(0, 1)}}}
	for i, c := range []struct {
		n     api.Net
		limit int
		e     api.Errno
	}{
		{api.Net{}, 0, api.ErrName},
		{inhibited, 0, api.ErrKind}, {urgent, 0, api.ErrKind}, {limited, 10, api.ErrKind},
		{independent(), 0, api.ErrRange}, {independent(), -1, api.ErrRange}, {independent(), api.MaxStates + 1, api.ErrRange}, {independent(), math.MaxInt, api.ErrRange},
		{over, 0, api.ErrRange}, {over, 1, api.ErrOver}, {over, 10, api.ErrOver},
		{independent(), api.MaxStates, api.OK}, {independent(), 1, api.OK},
	} {
		g, e := Reduced(c.n, c.limit)
		if e != c.e || e != api.OK && (len(g.States) > 0 || len(g.Edges) > 0 || g.Complete) {
			t.Error(i, g, e)
		}
	}
	// The transition that would exceed the limit is never fired.
	n := independent()
	n.Places = append(n.Places, api.Place{Name: "full", Init: most})
	n.Trans[1].Post = append(n.Trans[1].Post, api.Arc{Place: 4, W: 1})
	n.Trans[0].Post = arcs(0, 1)
	if g, e := Reduced(n, 10); e != api.OK || len(g.States) != 1 || !g.Complete {
		t.Error(g, e)
	}
	if _, e := explore.Explore(n, 10); e != api.ErrOver {
		t.Error(e)
	}
	if g, e := Reduced(independent(), 2); e != api.OK || g.Complete || len(g.States) != 2 || !slices.Equal(g.Edges, []api.Edge{{From: 0, Trans: 0, To: 1}}) {
		t.Error(g, e)
	}
}

// byDefinition returns the least set of transitions that the definition asks for.
func byDefinition(n api.Net, m []int, t int) []int {
	in := map[int]bool{t: true}
	for changed := true; changed; {
		changed = false
		for u := range n.Trans {
			for v := range n.Trans {
				if in[u] && !in[v] && asksFor(n, m, u, v) {
					in[v], changed = true, true
				}
			}
		}
	}
	var list []int
	for u := range n.Trans {
		if in[u] {
			list = append(list, u)
		}
	}
	return list
}

func asksFor(n api.Net, m []int, u, v int) bool {
	if firing.Enabled(n, m, u) {
		return slices.ContainsFunc(net.Inputs(n, u), func(p int) bool { return net.Pre(n, v, p) > 0 })
	}
	for p := range n.Places {
		if m[p] < net.Pre(n, u, p) {
			return net.Post(n, v, p) > net.Pre(n, v, p)
		}
	}
	return false
}

func setByDefinition(n api.Net, m []int) []int {
	var best []int
	for _, t := range firing.List(n, m) {
		fire := slices.DeleteFunc(byDefinition(n, m, t), func(u int) bool { return !firing.May(n, m, u) })
		if best == nil || len(fire) < len(best) {
			best = fire
		}
	}
	return best
}

func TestByDefinition(t *testing.T) {
	r := rand.New(rand.NewSource(17))
	proper, several := 0, 0
	for seed := range uint64(1500) {
		n := nettest.Random(seed, nettest.Shape{Places: 5, Trans: 7, Tokens: 2, Weight: 2})
		for range 3 {
			m := make([]int, len(n.Places))
			for p := range m {
				m[p] = r.Intn(3)
			}
			for u := range n.Trans {
				l := Closure(n, m, u)
				if !slices.Equal(l, byDefinition(n, m, u)) {
					t.Fatal(n, m, u, l)
				}
				for _, v := range l {
					if slices.ContainsFunc(Closure(n, m, v), func(w int) bool { return !slices.Contains(l, w) }) {
						t.Fatal("not contained", n, m, u, v)
					}
				}
			}
			l := Set(n, m)
			if !slices.Equal(l, setByDefinition(n, m)) {
				t.Fatal(n, m, l)
			}
			if len(l) < len(firing.List(n, m)) {
				proper++
			}
			if len(l) > 1 {
				several++
			}
		}
	}
	if proper < 300 || several < 100 {
		t.Error("too few cases", proper, several)
	}
}

// dead returns the markings of a graph at which no transition may fire, in order.
func dead(n api.Net, g api.Graph) [][]int {
	list := slices.DeleteFunc(slices.Clone(g.States), func(m []int) bool { return !firing.Dead(n, m) })
	slices.SortFunc(list, slices.Compare[[]int])
	return list
}

// TestReduced checks P17.3 and P17.4 on random nets.
func TestReduced(t *testing.T) {
	smaller, deadlocks := 0, 0
	for seed := range uint64(1500) {
		n := nettest.Random(seed, nettest.Shape{Places: 5, Trans: 5, Tokens: 2, Weight: 2})
		g, e := Reduced(n, 200)
		if e != api.OK {
			t.Fatal(n, e)
		}
		checkEdges(t, n, g)
		full, _ := explore.Explore(n, 200)
		if !g.Complete || !full.Complete {
			continue
		}
		if !slices.EqualFunc(dead(n, g), dead(n, full), slices.Equal[[]int]) {
			t.Error("deadlocks", n)
		}
		if slices.ContainsFunc(g.States, func(m []int) bool { return explore.Find(full, m) < 0 }) {
			t.Error("states", n)
		}
		if len(g.States) < len(full.States) {
			smaller++
		}
		if len(dead(n, g)) > 0 && len(g.States) > 2 {
			deadlocks++
		}
	}
	if smaller < 50 || deadlocks < 50 {
		t.Error("too few cases", smaller, deadlocks)
	}
}

// checkEdges checks that the states are found breadth-first, with an edge for each transition of Set.
func checkEdges(t *testing.T, n api.Net, g api.Graph) {
	t.Helper()
	states := [][]int{net.Initial(n)}
	var edges []api.Edge
	complete := true
	for i := 0; i < len(states); i++ {
		for _, u := range Set(n, states[i]) {
			m, _ := firing.Fire(n, states[i], u)
			to := slices.IndexFunc(states, func(state []int) bool { return slices.Equal(state, m) })
			if to < 0 && len(states) == 200 {
				complete = false
				continue
			}
			if to < 0 {
				to = len(states)
				states = append(states, m)
			}
			edges = append(edges, api.Edge{From: i, Trans: u, To: to})
		}
	}
	if g.Complete != complete || !slices.Equal(g.Edges, edges) || !slices.EqualFunc(g.States, states, slices.Equal[[]int]) {
		t.Fatal(n, g)
	}
}

func TestSharesNoMemory(t *testing.T) {
	n, m := independent(), []int{1, 0, 1, 0}
	l := Closure(n, m, 0)
	l[0] = 9
	l = Set(n, m)
	l[0] = 9
	g, _ := Reduced(n, 10)
	g.States[0][0] = 9
	if n.Places[0].Init != 1 || !slices.Equal(m, []int{1, 0, 1, 0}) || !slices.Equal(Set(n, m), []int{0}) {
		t.Error(n, m)
	}
}

func TestLarge(t *testing.T) {
	// 24 transitions whose closures all contain all of them.
	n := api.Net{Name: "n", Places: []api.Place{{Name: "p", Init: 1}}}
	for i := range api.MaxPlaces - 1 {
		n.Places = append(n.Places, api.Place{Name: "q" + string(rune('a'+i))})
	}
	for i := range api.MaxTrans {
		n.Trans = append(n.Trans, api.Trans{Name: "t" + string(rune('a'+i)), Pre: arcs(0, 1), Post: arcs(0, 1, 1+i%(api.MaxPlaces-1), 1)})
	}
	const limit = 5000
	g, e := Reduced(n, limit)
	if e != api.OK || g.Complete || len(g.States) != limit {
		t.Error(len(g.States), e)
	}
}
