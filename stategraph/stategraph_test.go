package stategraph

import (
	"iter"
	"math"
	"slices"
	"testing"

	"petrinet/api"
	"petrinet/firing"
	"petrinet/nettest"
)

// counting has a transition that increases p0, and one that empties it.
func counting() api.Net {
	n := nettest.Ordinary(1, [2][]int{nil, {0}}, [2][]int{{0}, nil})
	n.Trans[1].Pre[0].W = 2
	return n
}

func build(n api.Net, initial []int, limit int) (api.Graph, api.Errno) {
	return Build(initial, limit, func(m []int) iter.Seq2[int, []int] { return Firings(n, m, firing.List(n, m)) })
}

func TestBuild(t *testing.T) {
	g, e := build(counting(), []int{1}, 4)
	// The last state leads back to 1, although a fifth state is omitted.
	edges := []api.Edge{{From: 0, Trans: 0, To: 1}, {From: 1, Trans: 0, To: 2}, {From: 1, Trans: 1, To: 3}, {From: 2, Trans: 1, To: 0}, {From: 3, Trans: 0, To: 0}}
	if e != api.OK || g.Complete || !slices.Equal(g.Edges, edges) || !slices.EqualFunc(g.States, [][]int{{1}, {2}, {3}, {0}}, slices.Equal[[]int]) {
		t.Error(g, e)
	}
	n := counting()
	n.Trans = n.Trans[1:]
	if g, e := build(n, []int{3}, 2); e != api.OK || !g.Complete || len(g.States) != 2 || len(g.Edges) != 1 {
		t.Error(g, e)
	}
	if g, e := build(counting(), []int{api.MaxTokens}, 1); e != api.ErrOver || len(g.States) != 0 || len(g.Edges) != 0 || g.Complete {
		t.Error(g, e)
	}
}

func TestBuildFindsStatesOnce(t *testing.T) {
	n := nettest.Ordinary(2, [2][]int{{0}, {1}}, [2][]int{{0}, {1}})
	g, e := build(n, []int{1, 0}, 4)
	edges := []api.Edge{{From: 0, Trans: 0, To: 1}, {From: 0, Trans: 1, To: 1}}
	if e != api.OK || !g.Complete || len(g.States) != 2 || !slices.Equal(g.Edges, edges) {
		t.Error(g, e)
	}
}

func TestFirings(t *testing.T) {
	for u, m := range Firings(counting(), []int{api.MaxTokens}, []int{0, 1}) {
		if (u == 0) != (m == nil) || u == 1 && !slices.Equal(m, []int{api.MaxTokens - 2}) {
			t.Error(u, m)
		}
	}
	for u := range Firings(counting(), []int{2}, []int{0, 1}) {
		if u > 0 {
			t.Error("not left")
		}
		break
	}
}

func TestEdges(t *testing.T) {
	g := api.Graph{States: make([][]int, 2), Edges: []api.Edge{{From: 0, Trans: -7, To: 1}, {From: 0, To: 2}, {From: -1, To: 0}, {From: 2, To: 0}, {From: 1, To: -1}, {From: math.MaxInt, To: math.MinInt}, {From: 1, Trans: 99, To: 1}}}
	if l := slices.Collect(Edges(g)); !slices.Equal(l, []api.Edge{{From: 0, Trans: -7, To: 1}, {From: 1, Trans: 99, To: 1}}) {
		t.Error(l)
	}
	for e := range Edges(g) {
		if e.From != 0 {
			t.Error("not left")
		}
		break
	}
	if IsState(g, -1) || !IsState(g, 0) || !IsState(g, 1) || IsState(g, 2) || IsState(api.Graph{}, 0) {
		t.Error("IsState")
	}
}
