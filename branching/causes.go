package branching

import (
	"iter"
	"slices"

	"petrinet/api"
)

// What owners returns for an event that is a cause of none, or of several, of the given events.
const (
	nobody  = -1
	several = -2
)

// founded reports whether the process is well-founded.
func founded(b api.Branching) bool {
	for _, c := range b.Conds {
		if c.From != -1 && !isEvent(b, c.From) {
			return false
		}
	}
	for e, event := range b.Events {
		if slices.ContainsFunc(event.Pre, func(c int) bool { return !isCond(b, c) || b.Conds[c].From >= e }) {
			return false
		}
	}
	return true
}

// owners returns for each event of a well-founded process the index of the one among the given events of which it is a cause, or nobody or several. The given events may be -1.
func owners(b api.Branching, events ...int) []int {
	owner := slices.Repeat([]int{nobody}, len(b.Events))
	give := func(e, by int) {
		switch {
		case e < 0 || owner[e] == by:
		case owner[e] == nobody:
			owner[e] = by
		default:
			owner[e] = several
		}
	}
	for i, e := range events {
		give(e, i)
	}
	// An event comes after its causes: it has its owner before it gives it to them.
	for e, by := range slices.Backward(owner) {
		if by != nobody {
			for _, c := range b.Events[e].Pre {
				give(b.Conds[c].From, by)
			}
		}
	}
	return owner
}

// consumptions yields the events that have an owner, each with all conditions that it consumes.
func consumptions(b api.Branching, owner []int) iter.Seq2[int, int] {
	return func(yield func(int, int) bool) {
		for e, event := range b.Events {
			if owner[e] == nobody {
				continue
			}
			for _, c := range event.Pre {
				if !yield(e, c) {
					return
				}
			}
		}
	}
}

// conflicting reports whether two different events that have different owners, or one of them several, consume the same condition.
func conflicting(b api.Branching, owner []int) bool {
	first := slices.Repeat([]int{-1}, len(b.Conds))
	for e, c := range consumptions(b, owner) {
		switch f := first[c]; {
		case f < 0:
			first[c] = e
		case f != e && (owner[f] != owner[e] || owner[e] == several):
			return true
		}
	}
	return false
}
