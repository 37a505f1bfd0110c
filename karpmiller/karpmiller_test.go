package karpmiller

import (
	"math"
	"slices"
	"testing"

	"petrinet/api"
	"petrinet/marking"
	"petrinet/net"
	"petrinet/nettest"
	"petrinet/omega"
)

const w = api.Omega

var arcs = nettest.Arcs

// source has a transition that produces, and one that needs two tokens and moves one.
func source() api.Net {
	return api.Net{
		Name:   "n",
		Places: []api.Place{{Name: "p"}, {Name: "q", Init: 1}},
		Trans:  []api.Trans{{Name: "t", Post: arcs(0, 1)}, {Name: "u", Pre: arcs(0, 2), Post: arcs(0, 1, 1, 3)}},
	}
}

// other nets are not plain, or not valid.
func others() map[api.Errno][]api.Net {
	list := map[api.Errno][]api.Net{}
	for i, change := range []func(n *api.Net){
		func(n *api.Net) { n.Places[0].Cap = 5 },
		func(n *api.Net) { n.Trans[0].Prio = 1 },
		func(n *api.Net) { n.Trans[0].Inh = arcs(1, 1) },
		func(n *api.Net) { n.Trans[0].Name = "p" },
	} {
		n := source()
		change(&n)
		e := api.ErrKind
		if i == 3 {
			e = api.ErrTwice
		}
		list[e] = append(list[e], n)
	}
	return list
}

func TestEnabledFire(t *testing.T) {
	n := source()
	for _, c := range []struct {
		m, enabled []int
		after      [][]int
	}{
		{[]int{0, 1}, []int{0}, [][]int{{1, 1}, nil}},
		{[]int{2, 1}, []int{0, 1}, [][]int{{3, 1}, {1, 4}}},
		{[]int{w, 1}, []int{0, 1}, [][]int{{w, 1}, {w, 4}}},
		{[]int{1, w}, []int{0}, [][]int{{2, w}, nil}},
		{[]int{2, w}, []int{0, 1}, [][]int{{3, w}, {1, w}}},
		// A transition whose firing would exceed MaxTokens is enabled all the same.
		{[]int{api.MaxTokens, api.MaxTokens - 2}, []int{0, 1}, [][]int{nil, nil}},
		{[]int{api.MaxTokens - 1, api.MaxTokens - 3}, []int{0, 1}, [][]int{{api.MaxTokens, api.MaxTokens - 3}, {api.MaxTokens - 2, api.MaxTokens}}},
	} {
		before := slices.Clone(c.m)
		if l := Enabled(n, c.m); !slices.Equal(l, c.enabled) {
			t.Errorf("Enabled(%v) is %v", c.m, l)
		}
		for i, want := range c.after {
			if m, ok := Fire(n, c.m, i); !slices.Equal(m, want) || ok != (want != nil) || !slices.Equal(c.m, before) {
				t.Errorf("Fire(%v, %d) is %v %t", c.m, i, m, ok)
			}
		}
	}
	for _, i := range []int{-1, 2, math.MinInt, math.MaxInt} {
		if m, ok := Fire(n, []int{9, 9}, i); len(m) != 0 || ok {
			t.Error("a transition that does not exist", i)
		}
	}
	for _, m := range [][]int{nil, {9}, {9, 9, 9}, {9, -2}, {api.MaxTokens + 1, 0}} {
		if l, ok := Fire(n, m, 0); len(Enabled(n, m)) != 0 || len(l) != 0 || ok {
			t.Error("an invalid marking", m)
		}
	}
	for _, list := range others() {
		for _, n := range list {
			if m, ok := Fire(n, []int{0, 0}, 0); len(Enabled(n, []int{0, 0})) != 0 || len(m) != 0 || ok {
				t.Error(n)
			}
		}
	}
}

func equalTrees(a, b []api.Node) bool {
	return slices.EqualFunc(a, b, func(x, y api.Node) bool {
		return x.Parent == y.Parent && x.Trans == y.Trans && x.Again == y.Again && slices.Equal(x.M, y.M)
	})
}

func TestTree(t *testing.T) {
	one := api.Net{Name: "n", Places: []api.Place{{Name: "p"}}, Trans: []api.Trans{{Name: "t", Post: arcs(0, 1)}}}
	for i, c := range []struct {
		n    api.Net
		want []api.Node
	}{
		{one, []api.Node{{Parent: -1, Trans: -1, M: []int{0}}, {Parent: 0, Trans: 0, M: []int{w}}, {Parent: 1, Trans: 0, M: []int{w}, Again: true}}},
		{source(), []api.Node{
			{Parent: -1, Trans: -1, M: []int{0, 1}},
			{Parent: 0, Trans: 0, M: []int{w, 1}},
			{Parent: 1, Trans: 0, M: []int{w, 1}, Again: true},
			{Parent: 1, Trans: 1, M: []int{w, w}},
			{Parent: 3, Trans: 0, M: []int{w, w}, Again: true},
			{Parent: 3, Trans: 1, M: []int{w, w}, Again: true},
		}},
		{api.Net{Name: "n", Places: []api.Place{{Name: "p", Init: 7}}}, []api.Node{{Parent: -1, Trans: -1, M: []int{7}}}},
		// The second child has the marking of the first one, and gets no children.
		{api.Net{Name: "n", Places: []api.Place{{Name: "p", Init: 1}, {Name: "q"}}, Trans: []api.Trans{{Name: "t", Pre: arcs(0, 1), Post: arcs(1, 1)}, {Name: "u", Pre: arcs(0, 1), Post: arcs(1, 1)}, {Name: "v", Pre: arcs(1, 1)}}}, []api.Node{
			{Parent: -1, Trans: -1, M: []int{1, 0}},
			{Parent: 0, Trans: 0, M: []int{0, 1}},
			{Parent: 0, Trans: 1, M: []int{0, 1}, Again: true},
			{Parent: 1, Trans: 2, M: []int{0, 0}},
		}},
	} {
		for _, limit := range []int{len(c.want), len(c.want) + 1, api.MaxStates} {
			if tree, ok, e := Tree(c.n, limit); !equalTrees(tree, c.want) || !ok || e != api.OK {
				t.Errorf("case %d: %v %t %d", i, tree, ok, e)
			}
		}
		for limit := 1; limit < len(c.want); limit++ {
			if tree, ok, e := Tree(c.n, limit); !equalTrees(tree, c.want[:limit]) || ok || e != api.OK {
				t.Errorf("case %d, limit %d: %v %t %d", i, limit, tree, ok, e)
			}
		}
	}
}

func TestTreeErrors(t *testing.T) {
	for _, limit := range []int{0, -1, api.MaxStates + 1, math.MaxInt, math.MinInt} {
		if tree, ok, e := Tree(source(), limit); len(tree) != 0 || ok || e != api.ErrRange {
			t.Error(limit, tree, ok, e)
		}
		for want, list := range others() {
			for _, n := range list {
				if tree, ok, e := Tree(n, limit); len(tree) != 0 || ok || e != want {
					t.Error(n, tree, ok, e)
				}
			}
		}
	}
}

func TestTreeOver(t *testing.T) {
	// The second child of the root exceeds MaxTokens, although it would be accelerated.
	n := api.Net{Name: "n", Places: []api.Place{{Name: "p", Init: api.MaxTokens}, {Name: "q"}}, Trans: []api.Trans{{Name: "t", Pre: arcs(0, 1), Post: arcs(1, 1)}, {Name: "u", Post: arcs(0, 1)}, {Name: "v"}}}
	if tree, ok, e := Tree(n, 1); len(tree) != 1 || ok || e != api.OK {
		t.Error("the first child is one too many", tree, ok, e)
	}
	for _, limit := range []int{2, 3, 100} {
		// With the limit 2, the child that exceeds is the first one that is too many.
		if tree, ok, e := Tree(n, limit); len(tree) != 0 || ok || e != api.ErrOver {
			t.Error(limit, tree, ok, e)
		}
	}
	n.Trans[0], n.Trans[1] = n.Trans[1], n.Trans[0]
	if tree, ok, e := Tree(n, 1); len(tree) != 0 || ok || e != api.ErrOver {
		t.Error("the first child exceeds", tree, ok, e)
	}
}

// expected builds a tree as the document says, without any haste.
func expected(n api.Net, limit int) ([]api.Node, bool, api.Errno) {
	tree := []api.Node{{Parent: -1, Trans: -1, M: net.Initial(n)}}
	for i := 0; i < len(tree); i++ {
		if tree[i].Again {
			continue
		}
		for _, t := range Enabled(n, tree[i].M) {
			m, ok := Fire(n, tree[i].M, t)
			if !ok {
				return nil, false, api.ErrOver
			}
			for a := i; a >= 0; a = tree[a].Parent {
				m = omega.Accelerate(tree[a].M, m)
			}
			if len(tree) == limit {
				return tree, false, api.OK
			}
			again := slices.ContainsFunc(tree, func(x api.Node) bool { return slices.Equal(x.M, m) })
			tree = append(tree, api.Node{Parent: i, Trans: t, M: m, Again: again})
		}
	}
	return tree, true, api.OK
}

func TestRandomTrees(t *testing.T) {
	complete, unbounded := 0, 0
	for seed := range uint64(600) {
		n := nettest.Random(seed, nettest.Shape{Places: 4, Trans: 4, Tokens: 2, Weight: 2})
		for _, limit := range []int{1, 7, 300} {
			tree, ok, e := Tree(n, limit)
			want, wantOk, wantE := expected(n, limit)
			if !equalTrees(tree, want) || ok != wantOk || e != wantE {
				t.Fatal(n, limit, tree, ok, e)
			}
			if Valid(n, tree) != ok {
				t.Fatal("Valid", n, tree)
			}
			if limit == 300 && ok {
				complete++
				if len(Unbounded(tree)) > 0 {
					unbounded++
				}
				checkTree(t, n, tree)
			}
		}
	}
	if complete < 300 || unbounded < 100 {
		t.Error("too few complete trees", complete, unbounded)
	}
}

// checkTree compares a complete tree with reachable markings.
func checkTree(t *testing.T, n api.Net, tree []api.Node) {
	t.Helper()
	markings, all := nettest.Reachable(n, 2000)
	for _, m := range markings {
		if !slices.ContainsFunc(tree, func(x api.Node) bool { return omega.Covers(x.M, m) }) {
			t.Fatal("a reachable marking is not covered", n, m)
		}
	}
	omegas := Unbounded(tree)
	if all != (len(omegas) == 0) && len(markings) < 2000 {
		t.Fatal("Unbounded", n, omegas)
	}
	if len(omegas) > 0 {
		return
	}
	for _, x := range tree {
		if !slices.ContainsFunc(markings, func(m []int) bool { return slices.Equal(m, x.M) }) {
			t.Fatal("a node of a bounded net is not reachable", n, x)
		}
	}
	for i := range tree {
		m := net.Initial(n)
		for _, step := range Path(tree, i) {
			m, _ = Fire(n, m, step)
		}
		if !slices.Equal(m, tree[i].M) {
			t.Fatal("Path", n, i, Path(tree, i))
		}
	}
}

func TestUnboundedPlaces(t *testing.T) {
	// p and r have arbitrarily many tokens, q has at most one, s has none.
	n := api.Net{Name: "n", Places: []api.Place{{Name: "p"}, {Name: "q", Init: 1}, {Name: "r"}, {Name: "s"}}, Trans: []api.Trans{
		{Name: "t", Pre: arcs(1, 1), Post: arcs(0, 1, 1, 1)},
		{Name: "u", Pre: arcs(0, 3, 1, 1), Post: arcs(2, 1)},
		{Name: "v", Pre: arcs(0, 1), Post: arcs(2, 2)},
	}}
	tree, ok, e := Tree(n, 100)
	if !ok || e != api.OK || !slices.Equal(Unbounded(tree), []int{0, 2}) {
		t.Error(tree, ok, e)
	}
	for _, c := range []struct {
		tree []api.Node
		want []int
	}{
		{nil, nil},
		{[]api.Node{{}, {M: []int{}}}, nil},
		{[]api.Node{{M: []int{1, w}}, {M: []int{-5, 2, 3, w, 9, w}}, {M: []int{w}}}, []int{0, 1, 3, 5}},
	} {
		if l := Unbounded(c.tree); !slices.Equal(l, c.want) {
			t.Error(c.tree, l)
		}
	}
}

func TestPath(t *testing.T) {
	tree := []api.Node{{Parent: 7, Trans: 9}, {Parent: 0, Trans: 5}, {Parent: 3, Trans: -4}, {Parent: 1, Trans: 6}, {Parent: 5}, {Parent: 4}, {Parent: 6}, {Parent: -1}, {Parent: 8 + 1}}
	for i, want := range [][]int{nil, {5}, {5, 6, -4}, {5, 6}, nil, nil, nil, nil, nil} {
		if l := Path(tree, i); !slices.Equal(l, want) {
			t.Error(i, l)
		}
	}
	for _, i := range []int{-1, 9, math.MinInt, math.MaxInt} {
		if l := Path(tree, i); len(l) != 0 {
			t.Error(i, l)
		}
	}
	if l := Path(nil, 0); len(l) != 0 {
		t.Error(l)
	}
}

func TestValid(t *testing.T) {
	n := source()
	for i, change := range []func(tree []api.Node) []api.Node{
		func(tree []api.Node) []api.Node { return tree[:5] },
		func(tree []api.Node) []api.Node { return nil },
		func(tree []api.Node) []api.Node { return append(tree, tree[5]) },
		func(tree []api.Node) []api.Node { tree[0].Parent = 0; return tree },
		func(tree []api.Node) []api.Node { tree[2].Trans = 1; return tree },
		func(tree []api.Node) []api.Node { tree[2].Again = false; return tree },
		func(tree []api.Node) []api.Node { tree[3].M[1] = 4; return tree },
		func(tree []api.Node) []api.Node { tree[3].M = tree[3].M[:1]; return tree },
		func(tree []api.Node) []api.Node { return make([]api.Node, api.MaxStates+1) },
	} {
		tree, _, _ := Tree(n, 100)
		if !Valid(n, tree) {
			t.Fatal(tree)
		}
		if Valid(n, change(tree)) {
			t.Errorf("case %d is valid", i)
		}
	}
	tree, _, _ := Tree(n, 100)
	for _, list := range others() {
		for _, n := range list {
			if Valid(n, tree) {
				t.Error(n)
			}
		}
	}
}

func TestLongPath(t *testing.T) {
	n := api.Net{Name: "n", Places: []api.Place{{Name: "p", Init: api.MaxStates - 1}, {Name: "q"}}, Trans: []api.Trans{{Name: "t", Pre: arcs(0, 1), Post: arcs(1, 1)}}}
	tree, ok, e := Tree(n, api.MaxStates)
	if len(tree) != api.MaxStates || !ok || e != api.OK || marking.Compare(tree[api.MaxStates-1].M, []int{0, api.MaxStates - 1}) != 0 {
		t.Fatal(len(tree), ok, e)
	}
	if len(Path(tree, api.MaxStates-1)) != api.MaxStates-1 {
		t.Error("Path")
	}
}

func TestNodesShareNoMemory(t *testing.T) {
	tree, _, _ := Tree(source(), 100)
	for i, x := range tree {
		x.M[0] = 100 + i
	}
	for i, x := range tree {
		if x.M[0] != 100+i {
			t.Error("nodes share memory", i)
		}
	}
}
