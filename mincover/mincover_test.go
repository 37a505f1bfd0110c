package mincover

import (
	"math"
	"math/rand"
	"slices"
	"testing"

	"petrinet/api"
	"petrinet/backward"
	"petrinet/firing"
	"petrinet/karpmiller"
	"petrinet/marking"
	"petrinet/nettest"
	"petrinet/omega"
)

const w = api.Omega

var arcs = nettest.Arcs

func same(a, b [][]int) bool {
	return slices.EqualFunc(a, b, slices.Equal[[]int])
}

// made returns a net with the given tokens.
func made(tokens []int, trans ...api.Trans) api.Net {
	n := api.Net{Name: "n"}
	for p, k := range tokens {
		n.Places = append(n.Places, api.Place{Name: "p" + string(rune('a'+p)), Init: k})
	}
	for t, x := range trans {
		x.Name = "t" + string(rune('a'+t))
		n.Trans = append(n.Trans, x)
	}
	return n
}

func TestSet(t *testing.T) {
	for i, c := range []struct {
		n    api.Net
		want [][]int
	}{
		{made([]int{0}, api.Trans{Post: arcs(0, 1)}), [][]int{{w}}},
		{made([]int{3}), [][]int{{3}}},
		{made([]int{1, 0}, api.Trans{Pre: arcs(0, 1), Post: arcs(1, 1)}), [][]int{{0, 1}, {1, 0}}},
		// A choice between an unbounded and a bounded place.
		{made([]int{1, 0, 0}, api.Trans{Pre: arcs(0, 1), Post: arcs(1, 1)}, api.Trans{Pre: arcs(1, 1), Post: arcs(1, 1, 2, 1)}), [][]int{{0, 1, w}, {1, 0, 0}}},
		{made([]int{2, 0}, api.Trans{Pre: arcs(0, 1)}, api.Trans{Pre: arcs(0, 2), Post: arcs(0, 1, 1, 1)}), [][]int{{1, 1}, {2, 0}}},
	} {
		set, complete, e := Set(c.n, 100)
		if e != api.OK || !complete || !same(set, c.want) {
			t.Errorf("case %d: %v %v %v", i, set, complete, e)
		}
	}
}

func TestErrors(t *testing.T) {
	source := made([]int{0}, api.Trans{Post: arcs(0, 1)})
	prior := made([]int{0}, api.Trans{Prio: 1})
	for i, c := range []struct {
		n     api.Net
		limit int
		e     api.Errno
	}{
		{api.Net{}, 0, api.ErrName},
		{prior, 0, api.ErrKind},
		{source, 0, api.ErrRange},
		{source, -1, api.ErrRange},
		{source, api.MaxStates + 1, api.ErrRange},
		{source, math.MaxInt, api.ErrRange},
		{made([]int{api.MaxTokens}, api.Trans{Post: arcs(0, 1)}), 5, api.ErrOver},
		// The tree would have three nodes.
		{source, 1, api.OK},
		{source, 2, api.OK},
	} {
		if set, complete, e := Set(c.n, c.limit); len(set) != 0 || complete || e != c.e {
			t.Errorf("case %d: %v %v %v", i, set, complete, e)
		}
		if ends, complete, e := Terminates(c.n, c.limit); ends || complete || e != c.e {
			t.Errorf("case %d: %v %v %v", i, ends, complete, e)
		}
	}
	if set, complete, e := Set(source, 3); !same(set, [][]int{{w}}) || !complete || e != api.OK {
		t.Error(set, complete, e)
	}
}

func TestCoversBoundsBounded(t *testing.T) {
	for i, c := range []struct {
		set     [][]int
		covered [][]int
		not     [][]int
		bounds  []int
		bounded bool
	}{
		{nil, nil, [][]int{nil, {0}}, nil, false},
		{[][]int{{-2}, {1, api.MaxTokens + 1}}, nil, [][]int{nil, {0}, {0, 0}}, nil, false},
		{[][]int{{1, 0}, {0, 2}}, [][]int{{0, 0}, {1, 0}, {0, 1}, {0, 2}}, [][]int{{1, 1}, {0, 3}, {2, 0}, {0}, {0, 0, 0}, {w, 0}, {-5, 0}}, []int{1, 2}, true},
		{[][]int{{1, w}, {3, 2}}, [][]int{{1, api.MaxTokens}, {3, 2}, {2, 0}}, [][]int{{3, 3}, {1, w}, {1, api.MaxTokens + 1}}, []int{3, w}, false},
		{[][]int{{w, 1}, {3, 2}}, [][]int{{api.MaxTokens, 1}}, [][]int{{4, 2}}, []int{w, 2}, false},
		// The first valid element decides about the length; elements need not be maximal.
		{[][]int{{-2}, {1, 1}, {w}, {5}, {2, 1}, {0, w, 0}, {1, -7}, {1, 0}}, [][]int{{2, 1}, {1, 1}}, [][]int{{3, 0}, {0}, {4}, {0, 0, 0}}, []int{2, 1}, true},
		{[][]int{{}, {1}, {w}}, [][]int{nil, {}}, [][]int{{0}}, nil, true},
		{[][]int{{0, 0}, {w}}, [][]int{{0, 0}}, [][]int{{0}}, []int{0, 0}, true},
	} {
		for _, m := range c.covered {
			if !Covers(c.set, m) {
				t.Errorf("case %d: %v is not covered", i, m)
			}
		}
		for _, m := range c.not {
			if Covers(c.set, m) {
				t.Errorf("case %d: %v is covered", i, m)
			}
		}
		if l := Bounds(c.set); !slices.Equal(l, c.bounds) {
			t.Errorf("case %d: Bounds %v", i, l)
		}
		if b := Bounded(c.set); b != c.bounded {
			t.Errorf("case %d: Bounded %v", i, b)
		}
	}
}

func TestQuasi(t *testing.T) {
	n := made([]int{0, 0}, api.Trans{Pre: arcs(0, 2)}, api.Trans{Pre: arcs(1, 1)}, api.Trans{}, api.Trans{Pre: arcs(0, 99, 1, 1)}, api.Trans{Pre: arcs(1, 3)})
	prior := made([]int{0, 0}, api.Trans{Prio: 1})
	for i, c := range []struct {
		n    api.Net
		set  [][]int
		want []int
	}{
		{n, nil, nil},
		{n, [][]int{{0, 0}}, []int{2}},
		{n, [][]int{{2, 0}, {0, 1}}, []int{0, 1, 2}},
		{n, [][]int{{w, 1}}, []int{0, 1, 2, 3}},
		{n, [][]int{{-3, 5}, {0, 3}, {5}, {9, 9, 9}}, []int{1, 2, 4}},
		{n, [][]int{{1}, {w, w}}, nil},
		{n, [][]int{{1, 1, 1}}, nil},
		{prior, [][]int{{0, 0}}, nil},
		{api.Net{}, [][]int{{0, 0}}, nil},
		{api.Net{Trans: make([]api.Trans, 50)}, [][]int{nil}, nil},
	} {
		if l := Quasi(c.n, c.set); !slices.Equal(l, c.want) {
			t.Errorf("case %d: %v", i, l)
		}
	}
}

func TestTerminates(t *testing.T) {
	for i, c := range []struct {
		n    api.Net
		want bool
	}{
		{made([]int{1}), true},
		{made([]int{1, 0}, api.Trans{Pre: arcs(0, 1), Post: arcs(1, 1)}), true},
		{made([]int{1, 0}, api.Trans{Pre: arcs(0, 1), Post: arcs(1, 1)}, api.Trans{Pre: arcs(1, 1), Post: arcs(0, 1)}), false},
		{made([]int{0}, api.Trans{Post: arcs(0, 1)}), false},
		{made([]int{0}, api.Trans{}), false},
		{made([]int{1}, api.Trans{Pre: arcs(0, 1), Post: arcs(0, 1)}), false},
		{made([]int{0}, api.Trans{Pre: arcs(0, 1), Post: arcs(0, 1)}), true},
		// Two ways to one marking are no cycle.
		{made([]int{1, 1}, api.Trans{Pre: arcs(0, 1)}, api.Trans{Pre: arcs(1, 1)}), true},
		// The cycle runs between two branches of the tree: no node has the marking of an ancestor.
		{made([]int{1, 0, 0}, api.Trans{Pre: arcs(0, 1), Post: arcs(1, 1)}, api.Trans{Pre: arcs(0, 1), Post: arcs(2, 1)}, api.Trans{Pre: arcs(1, 1), Post: arcs(2, 1)}, api.Trans{Pre: arcs(2, 1), Post: arcs(1, 1)}), false},
	} {
		if ends, complete, e := Terminates(c.n, 100); ends != c.want || !complete || e != api.OK {
			t.Errorf("case %d: %v %v %v", i, ends, complete, e)
		}
	}
}

// endless reports whether a firing sequence in a bounded net leads from a marking on the path, or from m, to itself.
func endless(n api.Net, m []int, path []string, done map[string]bool) bool {
	text := marking.Text(m)
	if slices.Contains(path, text) {
		return true
	}
	if done[text] {
		return false
	}
	for _, t := range firing.List(n, m) {
		if after, _ := firing.Fire(n, m, t); endless(n, after, append(path, text), done) {
			return true
		}
	}
	done[text] = true
	return false
}

func TestRandomNets(t *testing.T) {
	r := rand.New(rand.NewSource(23))
	bounded, unbounded, ends := 0, 0, 0
	for seed := range uint64(600) {
		n := nettest.Random(seed, nettest.Shape{Places: 4, Trans: 4, Tokens: 2, Weight: 2})
		set, complete, e := Set(n, 2000)
		if e != api.OK {
			t.Fatal(n, e)
		}
		if !complete {
			continue
		}
		if tree, _, _ := karpmiller.Tree(n, 2000); !same(set, omega.Maximal(texted(tree))) {
			t.Fatal(n, set)
		}
		terminates, _, _ := Terminates(n, 2000)
		if states, all := nettest.Reachable(n, 3000); all != Bounded(set) {
			t.Fatal(n, set, "is not bounded")
		} else if all {
			bounded++
			checkStates(t, n, set, states)
			if terminates == endless(n, states[0], nil, map[string]bool{}) {
				t.Fatal(n, "Terminates", terminates)
			}
			if terminates && len(states) > 1 {
				ends++
			}
		} else {
			unbounded++
			if terminates {
				t.Fatal(n, "terminates")
			}
		}
		checkBackward(t, n, set, r)
		checkOrder(t, n, set, r)
	}
	if bounded < 100 || unbounded < 100 || ends < 30 {
		t.Error(bounded, unbounded, ends)
	}
}

func texted(tree []api.Node) [][]int {
	var list [][]int
	for _, node := range tree {
		list = append(list, node.M)
	}
	return list
}

// checkStates compares a set with all reachable markings.
func checkStates(t *testing.T, n api.Net, set, states [][]int) {
	t.Helper()
	bounds := slices.Clone(states[0])
	for _, m := range states {
		bounds = marking.Max(bounds, m)
		if !Covers(set, m) {
			t.Fatal(n, set, "does not cover", m)
		}
	}
	if !slices.Equal(Bounds(set), bounds) {
		t.Fatal(n, "Bounds", set, bounds)
	}
	var quasi []int
	for u := range n.Trans {
		if slices.ContainsFunc(states, func(m []int) bool { return firing.May(n, m, u) }) {
			quasi = append(quasi, u)
		}
	}
	if !slices.Equal(Quasi(n, set), quasi) {
		t.Fatal(n, "Quasi", set, quasi)
	}
	for _, m := range states {
		for p := range m {
			m = slices.Clone(m)
			m[p]++
			if Covers(set, m) != slices.ContainsFunc(states, func(s []int) bool { return marking.Leq(m, s) }) {
				t.Fatal(n, set, "Covers", m)
			}
		}
	}
}

// checkBackward compares a set with the results of backward analysis.
func checkBackward(t *testing.T, n api.Net, set [][]int, r *rand.Rand) {
	t.Helper()
	for range 5 {
		m := make([]int, len(n.Places))
		for p := range m {
			m[p] = r.Intn(4)
		}
		if possible, e := backward.Coverable(n, [][]int{m}, 1000); e == api.OK && possible != Covers(set, m) {
			t.Fatal(n, set, "Covers", m)
		}
	}
	never, e := backward.Never(n, 1000)
	quasi := Quasi(n, set)
	for u := range n.Trans {
		if e == api.OK && slices.Contains(never, u) == slices.Contains(quasi, u) {
			t.Fatal(n, set, "Quasi", u)
		}
	}
}

// checkOrder checks that the set does not depend on the order of the transitions.
func checkOrder(t *testing.T, n api.Net, set [][]int, r *rand.Rand) {
	t.Helper()
	other := n
	other.Trans = slices.Clone(n.Trans)
	r.Shuffle(len(n.Trans), func(i, k int) { other.Trans[i], other.Trans[k] = other.Trans[k], other.Trans[i] })
	again, complete, e := Set(other, api.MaxStates)
	if e != api.OK || complete && !same(again, set) {
		t.Fatal(n, set, again, e)
	}
}

func TestSharesNoMemory(t *testing.T) {
	set := [][]int{{1, 0}, {0, 2}}
	Bounds(set)[0] = 9
	if !same(set, [][]int{{1, 0}, {0, 2}}) {
		t.Error("the argument was changed")
	}
}
