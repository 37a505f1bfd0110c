package soundness

import (
	"iter"
	"slices"

	"petrinet/api"
	"petrinet/behave"
	"petrinet/digraph"
	"petrinet/explore"
	"petrinet/marking"
	"petrinet/mincover"
	"petrinet/workflow"
)

// behavior is how a net behaves.
type behavior struct {
	// cover is the minimal coverability set.
	cover [][]int
	// graph is the complete state graph, if the net is bounded.
	graph api.Graph
}

// behaviorOf returns the behavior of a valid plain net; ErrRange if the limit is not from 1 to MaxStates, as mincover.Set finds, and ErrLimit if it is reached.
func behaviorOf(n api.Net, limit int) (behavior, api.Errno) {
	cover, complete, e := mincover.Set(n, limit)
	if e != api.OK {
		return behavior{}, e
	}
	if !complete {
		return behavior{}, api.ErrLimit
	}
	b := behavior{cover: cover}
	if !b.bounded() {
		return b, api.OK
	}
	b.graph, e = explore.Explore(n, limit)
	if e != api.OK {
		return behavior{}, e
	}
	if !b.graph.Complete {
		return behavior{}, api.ErrLimit
	}
	return b, api.OK
}

func (b behavior) bounded() bool {
	return mincover.Bounded(b.cover)
}

// reaching reports for each state whether the marking m can be reached from it.
func (b behavior) reaching(m []int) []bool {
	// If m is no state, Find returns -1, which Reach ignores.
	return digraph.Reach(digraph.Reverse(explore.Adjacency(b.graph)), explore.Find(b.graph, m))
}

// diagnoses yields the problems of a prepared net, which has this behavior, in the order of a report.
func (b behavior) diagnoses(n api.Net, final []int) iter.Seq[api.Diagnosis] {
	return func(yield func(api.Diagnosis) bool) {
		if !b.bounded() {
			yield(api.Diagnosis{Kind: api.Unbounded, N: slices.Index(mincover.Bounds(b.cover), api.Omega)})
			return
		}
		for state, ends := range b.reaching(final) {
			if !ends && !yield(api.Diagnosis{Kind: api.NoEnd, N: state}) {
				return
			}
		}
		for state, m := range b.graph.States {
			if marking.Leq(final, m) && !slices.Equal(final, m) && !yield(api.Diagnosis{Kind: api.LeftOver, N: state}) {
				return
			}
		}
		for _, t := range behave.Never(n, b.graph) {
			if !yield(api.Diagnosis{Kind: api.NeverRuns, N: t}) {
				return
			}
		}
	}
}

// findings are a report and the behavior that it is about.
type findings struct {
	Report
	behavior
}

// examine returns the findings about a workflow net.
func examine(n api.Net, limit int) (findings, api.Errno) {
	prepared, e := workflow.Prepare(n)
	if e != api.OK {
		return findings{}, e
	}
	b, e := behaviorOf(prepared, limit)
	if e != api.OK {
		return findings{}, e
	}
	f := findings{behavior: b}
	if f.bounded() {
		f.Report = Report{Bounded: true, Option: true, Proper: true, Quasi: true, States: len(f.graph.States)}
	}
	final, _ := workflow.Final(n)
	for d := range f.diagnoses(prepared, final) {
		f.List = append(f.List, d)
		switch d.Kind {
		case api.NoEnd:
			f.Option = false
		case api.LeftOver:
			f.Proper = false
		case api.NeverRuns:
			f.Quasi = false
		}
	}
	return f, api.OK
}
