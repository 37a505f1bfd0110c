package audit

import (
	"iter"
	"slices"

	"petrinet/api"
	"petrinet/bitset"
	"petrinet/invariant"
	"petrinet/siphon"
	"petrinet/stateeq"
)

// structure has the checks that compare what follows from the structure of the net alone.
type structure struct {
	subject
}

// semiflow yields the states that contradict a place invariant.
func (s structure) semiflow() iter.Seq[int] {
	return s.states(func(m []int) bool {
		agrees, e := invariant.Agrees(s.net, m)
		return e == api.OK && !agrees
	})
}

// equation yields the states that the marking equation, or a trap, excludes.
func (s structure) equation() iter.Seq[int] {
	return s.states(func(m []int) bool {
		verdict, e := stateeq.Verdict(s.net, m)
		return e == api.OK && verdict != stateeq.Unknown
	})
}

// trap yields the states from which an edge takes the last token of a trap, or puts the first one into a siphon.
func (s structure) trap() iter.Seq[int] {
	// There are no lists for nets with many places.
	siphons, _ := siphon.Siphons(s.net)
	traps, _ := siphon.Traps(s.net)
	return s.crossing(siphons, traps)
}

// crossing yields the states from which an edge takes the last token of one of the traps, or puts the first one into one of the siphons. If that is so for any other trap or siphon, it is so for the greatest one that has no tokens then, or before.
func (s structure) crossing(siphons, traps []uint64) iter.Seq[int] {
	var emptySiphons, emptyTraps []uint64
	for _, m := range s.graph.States {
		emptySiphons = append(emptySiphons, siphon.MaxSiphon(s.net, unmarked(m)))
		emptyTraps = append(emptyTraps, siphon.MaxTrap(s.net, unmarked(m)))
	}
	fails := make([]bool, len(s.graph.States))
	for _, edge := range s.graph.Edges {
		from, to := s.graph.States[edge.From], s.graph.States[edge.To]
		filled := func(set uint64) bool { return !siphon.Marked(set, from) && siphon.Marked(set, to) }
		emptied := func(set uint64) bool { return siphon.Marked(set, from) && !siphon.Marked(set, to) }
		if slices.ContainsFunc(siphons, filled) || filled(emptySiphons[edge.From]) || slices.ContainsFunc(traps, emptied) || emptied(emptyTraps[edge.To]) {
			fails[edge.From] = true
		}
	}
	return where(len(fails), func(state int) bool { return fails[state] })
}

// unmarked returns the set of the places without tokens.
func unmarked(m []int) uint64 {
	var set uint64
	for p, tokens := range m {
		if tokens == 0 {
			set = bitset.With(set, p)
		}
	}
	return set
}
