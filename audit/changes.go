package audit

import (
	"iter"
	"slices"

	"petrinet/api"
	"petrinet/explore"
	"petrinet/mincover"
	"petrinet/rank"
	"petrinet/reduction"
	"petrinet/transform"
)

// changes has the checks that compare the net with nets made from it, and with the verdict of the rank theorem.
type changes struct {
	subject
}

// reduction yields 0 if the reduced net is not bounded, as the net is, or only one of the two is live.
func (c changes) reduction() iter.Seq[int] {
	reduced, _, e := reduction.Reduce(c.net)
	if e != api.OK {
		return nowhere()
	}
	set, complete, e := mincover.Set(reduced, api.MaxStates)
	if e == api.OK && complete && !mincover.Bounded(set) {
		return when(true)
	}
	g, e := explore.Explore(reduced, api.MaxStates)
	return when(e == api.OK && g.Complete && live(reduced, g) != live(c.net, c.graph))
}

// rank yields 0 if the rank theorem and the state graph disagree whether the net is live and bounded.
func (c changes) rank() iter.Seq[int] {
	r, e := rank.Conditions(c.net)
	if e != api.OK || !r.Connected {
		return nowhere()
	}
	liveBounded, e := rank.LiveBounded(c.net)
	return when(e == api.OK && liveBounded != live(c.net, c.graph))
}

// complement yields the states to which no state of the complemented net with the same edges corresponds.
func (c changes) complement() iter.Seq[int] {
	complemented, e := transform.Complement(c.net)
	if e != api.OK {
		return nowhere()
	}
	g, e := explore.Explore(complemented, api.MaxStates)
	if e != api.OK || !g.Complete {
		return nowhere()
	}
	// Both explorations find corresponding states in the same order.
	edges, others := leaving(c.graph), leaving(g)
	return where(max(len(edges), len(others)), func(i int) bool {
		if i >= len(edges) || i >= len(others) {
			return true
		}
		lifted, e := transform.Lift(c.net, c.graph.States[i])
		return e == api.OK && !(slices.Equal(lifted, g.States[i]) && slices.Equal(edges[i], others[i]))
	})
}

// leaving returns for each state the edges that lead from it.
func leaving(g api.Graph) [][]api.Edge {
	edges := make([][]api.Edge, len(g.States))
	for _, edge := range g.Edges {
		edges[edge.From] = append(edges[edge.From], edge)
	}
	return edges
}
