package audit

import (
	"iter"

	"petrinet/api"
	"petrinet/behave"
	"petrinet/ctl"
	"petrinet/prefix"
	"petrinet/prefixq"
	"petrinet/stubborn"
	"petrinet/symmetry"
)

// graphs has the checks that compare other representations of the states: reduced graphs, quotients and prefixes.
type graphs struct {
	subject
}

// stubborn yields the states that only one of the state graph and the reduced graph has as a deadlock.
func (g graphs) stubborn() iter.Seq[int] {
	reduced, e := stubborn.Reduced(g.net, api.MaxStates)
	if e != api.OK || !reduced.Complete {
		return nowhere()
	}
	return g.differing(deadlocks(g.graph), deadlocks(reduced))
}

// deadlocks returns the markings of the deadlocks of a complete state graph.
func deadlocks(g api.Graph) [][]int {
	var markings [][]int
	for _, state := range behave.Deadlocks(g) {
		markings = append(markings, g.States[state])
	}
	return markings
}

// symmetry yields the states that are canonical markings but not in the quotient, or the other way round.
func (g graphs) symmetry() iter.Seq[int] {
	permutations, e := symmetry.Automorphisms(g.net)
	if e != api.OK {
		return nowhere()
	}
	quotient, e := symmetry.Quotient(g.net, api.MaxStates)
	if e != api.OK || !quotient.Complete {
		return nowhere()
	}
	var canonical [][]int
	for _, m := range g.graph.States {
		canonical = append(canonical, symmetry.Canonical(permutations, m))
	}
	return g.differing(canonical, quotient.States)
}

// ask returns the answer that the complete prefix gives to a question.
func (g graphs) ask(question func(n api.Net, b api.Branching) ([][]int, api.Errno)) ([][]int, api.Errno) {
	b, e := prefix.Build(g.net, api.MaxEvents)
	if e != api.OK {
		return nil, e
	}
	return question(g.net, b)
}

// prefix yields the states that are not among the markings of the prefix.
func (g graphs) prefix() iter.Seq[int] {
	markings, e := g.ask(prefixq.Markings)
	if e != api.OK {
		return nowhere()
	}
	return g.differing(g.graph.States, markings)
}

// deadlock yields the states that are deadlocks by some analyses only; 0 if the temporal formulas contradict each other.
func (g graphs) deadlock() iter.Seq[int] {
	dead, e := g.ask(prefixq.Deadlocks)
	if e != api.OK {
		return nowhere()
	}
	formula := api.Formula{Kind: api.Dead}
	holds, e := ctl.States(g.net, g.graph, formula)
	if e != api.OK {
		return nowhere()
	}
	possible, e := ctl.Holds(g.net, g.graph, api.Formula{Kind: api.EF, Kids: []api.Formula{formula}})
	if e != api.OK {
		return nowhere()
	}
	var satisfying [][]int
	for state, m := range g.graph.States {
		if holds[state] {
			satisfying = append(satisfying, m)
		}
	}
	if possible != (len(satisfying) > 0) {
		return when(true)
	}
	return g.differing(dead, deadlocks(g.graph), satisfying)
}
