package netclass

import (
	"slices"
	"testing"

	"petrinet/api"
	"petrinet/digraph"
	"petrinet/net"
	"petrinet/nettest"
)

var arcs = nettest.Ones

var made = nettest.Ordinary

// with changes a net.
func with(n api.Net, change func(n *api.Net)) api.Net {
	change(&n)
	return n
}

var invalid = []api.Net{{}, {Name: "n"}, made(1, [2][]int{{1}, {}}), made(1, [2][]int{{0, 0}, {}})}

func TestWords(t *testing.T) {
	cycle := func() api.Net { return made(2, [2][]int{{0}, {1}}, [2][]int{{1}, {0}}) }
	for i, c := range []struct {
		n    api.Net
		want []string
	}{
		{made(1, [2][]int{{0}, {0}}), []string{"plain", "ordinary", "connected", "strong", "statemachine", "markedgraph", "freechoice", "asymmetric"}},
		{cycle(), []string{"plain", "ordinary", "pure", "connected", "strong", "statemachine", "markedgraph", "freechoice", "asymmetric"}},
		{made(1), []string{"plain", "ordinary", "pure", "connected", "strong", "statemachine", "freechoice", "asymmetric"}},
		{made(2), []string{"plain", "ordinary", "pure", "statemachine", "freechoice", "asymmetric"}},
		{made(2, [2][]int{{0}, {1}}), []string{"plain", "ordinary", "pure", "connected", "statemachine", "freechoice", "asymmetric"}},
		{made(1, [2][]int{}), []string{"plain", "ordinary", "pure", "freechoice", "asymmetric"}},
		// A choice, a join, and both.
		{made(1, [2][]int{{0}, {}}, [2][]int{{0}, {}}), []string{"plain", "ordinary", "pure", "connected", "freechoice", "asymmetric"}},
		{made(2, [2][]int{{0, 1}, {}}, [2][]int{{0, 1}, {}}), []string{"plain", "ordinary", "pure", "connected", "freechoice", "asymmetric"}},
		{made(2, [2][]int{{0, 1}, {}}, [2][]int{{0}, {}}), []string{"plain", "ordinary", "pure", "connected", "asymmetric"}},
		{made(2, [2][]int{{0, 1}, {}}, [2][]int{{1}, {}}), []string{"plain", "ordinary", "pure", "connected", "asymmetric"}},
		{made(2, [2][]int{{0}, {}}, [2][]int{{0, 1}, {}}, [2][]int{{1}, {}}), []string{"plain", "ordinary", "pure", "connected"}},
		// A marked graph that is no state machine.
		{made(2, [2][]int{{0, 1}, {0, 1}}), []string{"plain", "ordinary", "connected", "strong", "markedgraph", "freechoice", "asymmetric"}},
		{made(2, [2][]int{{}, {0, 1}}, [2][]int{{0, 1}, {}}), []string{"plain", "ordinary", "pure", "connected", "markedgraph", "freechoice", "asymmetric"}},
		// Nets that are not plain, or not ordinary, are in none of the four classes.
		{with(cycle(), func(n *api.Net) { n.Places[0].Cap = 1 }), []string{"ordinary", "pure", "connected", "strong"}},
		{with(cycle(), func(n *api.Net) { n.Trans[1].Prio = 1 }), []string{"ordinary", "pure", "connected", "strong"}},
		{with(cycle(), func(n *api.Net) { n.Trans[1].Pre[0].W = 2 }), []string{"plain", "pure", "connected", "strong"}},
		{with(cycle(), func(n *api.Net) { n.Trans[1].Post[0].W = 2 }), []string{"plain", "pure", "connected", "strong"}},
		// Inhibitor arcs connect nothing.
		{with(made(1, [2][]int{}), func(n *api.Net) { n.Trans[0].Inh = arcs(0) }), []string{"ordinary", "pure"}},
		{invalid[0], nil},
		{invalid[2], nil},
	} {
		if l := Words(c.n); !slices.Equal(l, c.want) {
			t.Errorf("case %d: %q, want %q", i, l, c.want)
		}
	}
}

func TestInvalidNets(t *testing.T) {
	for i, n := range invalid {
		for _, property := range []func(api.Net) bool{StateMachine, MarkedGraph, FreeChoice, Asymmetric, Pure, Connected, Strong} {
			if property(n) {
				t.Errorf("net %d has a property", i)
			}
		}
		if len(Flow(n)) != 0 || len(Clusters(n)) != 0 || len(Words(n)) != 0 {
			t.Errorf("net %d", i)
		}
	}
}

func TestFlow(t *testing.T) {
	n := made(3, [2][]int{{0, 2}, {1}}, [2][]int{{0}, {0, 2}}, [2][]int{})
	n.Trans[2].Inh = arcs(1)
	want := [][]int{{3, 4}, nil, {3}, {1}, {0, 2}, nil}
	if g := Flow(n); !slices.EqualFunc(g, want, slices.Equal[[]int]) {
		t.Error(g)
	}
	g := Flow(n)
	g[0][0], g[4][0] = 9, 9
	if n.Trans[1].Post[0].Place != 0 || !slices.EqualFunc(Flow(n), want, slices.Equal[[]int]) {
		t.Error("the result shares memory with the argument")
	}
}

func TestClusters(t *testing.T) {
	n := made(5, [2][]int{{1, 3}, {0}}, [2][]int{{3}, {2}}, [2][]int{{4}, {1}}, [2][]int{{}, {4}}, [2][]int{{0}, {}}, [2][]int{{0}, {}})
	n.Trans[3].Inh = arcs(2)
	if l := Clusters(n); !slices.Equal(l, []int{0, 1, 2, 1, 4, 1, 1, 4, 8, 0, 0}) {
		t.Error(l)
	}
}

// closure returns the cluster of a node by its definition.
func closure(n api.Net, node int) []bool {
	in := make([]bool, len(n.Places)+len(n.Trans))
	in[node] = true
	for changed := true; changed; {
		changed = false
		for p := range n.Places {
			for t := range n.Trans {
				i := len(n.Places) + t
				if net.Pre(n, t, p) > 0 && in[p] != in[i] {
					in[p], in[i], changed = true, true, true
				}
			}
		}
	}
	return in
}

// allPairs reports whether the relation holds for the consumers of all pairs of places that have a common one.
func allPairs(n api.Net, relation func(a, b []int) bool) bool {
	for p := range n.Places {
		for q := range n.Places {
			a, b := net.Consumers(n, p), net.Consumers(n, q)
			if slices.ContainsFunc(a, func(t int) bool { return slices.Contains(b, t) }) && !relation(a, b) {
				return false
			}
		}
	}
	return true
}

func TestRandomNets(t *testing.T) {
	counts := map[string]int{}
	for seed := range uint64(2000) {
		n := nettest.Random(seed, nettest.Shape{Places: 4, Trans: 4, Tokens: 1, Weight: 1 + int(seed%4)/3})
		words := Words(n)
		has := func(word string) bool { return slices.Contains(words, word) }
		for _, word := range words {
			counts[word]++
		}
		usual := net.Plain(n) && net.Ordinary(n)
		contains := func(a, b []int) bool {
			return !slices.ContainsFunc(b, func(x int) bool { return !slices.Contains(a, x) })
		}
		if has("freechoice") != (usual && allPairs(n, slices.Equal[[]int])) {
			t.Fatal("FreeChoice", n)
		}
		if has("asymmetric") != (usual && allPairs(n, func(a, b []int) bool { return contains(a, b) || contains(b, a) })) {
			t.Fatal("Asymmetric", n)
		}
		if (has("statemachine") || has("markedgraph")) && !has("freechoice") || has("freechoice") && !has("asymmetric") {
			t.Fatal("inclusions", n, words)
		}
		checkFlow(t, n)
		least := Clusters(n)
		for node := range least {
			in := closure(n, node)
			if least[node] != slices.Index(in, true) {
				t.Fatal("Clusters", n, least)
			}
			for other := range least {
				if in[other] != (least[node] == least[other]) {
					t.Fatal("Clusters", n, least)
				}
			}
		}
	}
	for _, word := range []string{"plain", "ordinary", "pure", "connected", "strong", "statemachine", "markedgraph", "freechoice", "asymmetric"} {
		if counts[word] == 0 || word != "plain" && counts[word] == 2000 {
			t.Error("the nets do not test", word, counts)
		}
	}
}

// checkFlow compares Flow, Connected and Strong with the arcs of the net and paths in the graph.
func checkFlow(t *testing.T, n api.Net) {
	t.Helper()
	g := Flow(n)
	if !digraph.Valid(g) || len(g) != len(n.Places)+len(n.Trans) {
		t.Fatal("Flow", n, g)
	}
	both := slices.Clone(g)
	edges := 0
	for p := range n.Places {
		for i := range n.Trans {
			node := len(n.Places) + i
			if slices.Contains(g[p], node) != (net.Pre(n, i, p) > 0) || slices.Contains(g[node], p) != (net.Post(n, i, p) > 0) {
				t.Fatal("Flow", n, g)
			}
			edges += min(1, net.Pre(n, i, p)) + min(1, net.Post(n, i, p))
			if net.Pre(n, i, p)+net.Post(n, i, p) > 0 {
				both[p], both[node] = append(slices.Clone(both[p]), node), append(slices.Clone(both[node]), p)
			}
		}
	}
	if edges != len(slices.Concat(g...)) {
		t.Fatal("Flow", n, g)
	}
	strong, connected := true, true
	for v := range g {
		strong = strong && !slices.Contains(digraph.Reach(g, v), false)
		connected = connected && !slices.Contains(digraph.Reach(both, v), false)
	}
	if Strong(n) != strong || Connected(n) != connected {
		t.Fatal("Strong, Connected", n, strong, connected)
	}
}
