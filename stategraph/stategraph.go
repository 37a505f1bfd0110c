// Package stategraph builds state graphs breadth-first, and visits the edges of graphs. Other packages use it.
package stategraph

import (
	"iter"

	"petrinet/api"
	"petrinet/firing"
)

// key identifies a valid marking of a net: MaxTokens fits into 32 bits.
type key [api.MaxPlaces]int32

func keyOf(m []int) key {
	var k key
	for p, tokens := range m {
		k[p] = int32(tokens)
	}
	return k
}

// Build returns the graph of the markings that are found breadth-first, with limit states at most, or ErrOver. The initial marking must be a valid one of a net. For each state, successors yields transitions in ascending order, each with the marking that it leads to; nil if a place would have more than MaxTokens tokens.
func Build(initial []int, limit int, successors func(m []int) iter.Seq2[int, []int]) (api.Graph, api.Errno) {
	g := api.Graph{States: [][]int{initial}, Complete: true}
	found := map[key]int{keyOf(initial): 0}
	for i := 0; i < len(g.States); i++ {
		for t, m := range successors(g.States[i]) {
			if m == nil {
				return api.Graph{}, api.ErrOver
			}
			to, known := found[keyOf(m)]
			if !known && len(g.States) == limit {
				// The other transitions still fire, as one of them may exceed MaxTokens.
				g.Complete = false
				continue
			}
			if !known {
				to = len(g.States)
				found[keyOf(m)] = to
				g.States = append(g.States, m)
			}
			g.Edges = append(g.Edges, api.Edge{From: i, Trans: t, To: to})
		}
	}
	return g, api.OK
}

// Firings yields the given transitions, which may fire, each with the marking after it; nil if a place would have more than MaxTokens tokens.
func Firings(n api.Net, m []int, transitions []int) iter.Seq2[int, []int] {
	return func(yield func(int, []int) bool) {
		for _, t := range transitions {
			after, _ := firing.Fire(n, m, t)
			if !yield(t, after) {
				return
			}
		}
	}
}

// Edges yields the edges that lead from a state to a state, in their order.
func Edges(g api.Graph) iter.Seq[api.Edge] {
	return func(yield func(api.Edge) bool) {
		for _, e := range g.Edges {
			if IsState(g, e.From) && IsState(g, e.To) && !yield(e) {
				return
			}
		}
	}
}

// IsState reports whether i is the index of a state.
func IsState(g api.Graph, i int) bool {
	return 0 <= i && i < len(g.States)
}
