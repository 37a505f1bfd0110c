package audit

import (
	"iter"
	"slices"

	"petrinet/api"
	"petrinet/behave"
	"petrinet/marking"
)

// where yields the numbers below count at which a comparison fails.
func where(count int, fails func(i int) bool) iter.Seq[int] {
	return func(yield func(int) bool) {
		for i := range count {
			if fails(i) && !yield(i) {
				return
			}
		}
	}
}

// when yields 0 if a comparison failed that tells nothing about where.
func when(failed bool) iter.Seq[int] {
	return where(1, func(int) bool { return failed })
}

// nowhere is the result of a check that is left out.
func nowhere() iter.Seq[int] {
	return when(false)
}

// subject is what the checks of a net are about: the net, and its complete state graph.
type subject struct {
	net   api.Net
	graph api.Graph
}

// states yields the states at whose markings a comparison fails.
func (s subject) states(fails func(m []int) bool) iter.Seq[int] {
	return where(len(s.graph.States), func(i int) bool { return fails(s.graph.States[i]) })
}

// differing yields the states whose markings are in some of the lists, but not in all; 0 also if there is such a marking that is no state.
func (s subject) differing(lists ...[][]int) iter.Seq[int] {
	differing := map[string]bool{}
	sets := make([]map[string]bool, len(lists))
	for i, markings := range lists {
		sets[i] = texts(markings)
		for text := range sets[i] {
			differing[text] = true
		}
	}
	lacking := func(text string) bool {
		return slices.ContainsFunc(sets, func(set map[string]bool) bool { return !set[text] })
	}
	var fails []bool
	for _, m := range s.graph.States {
		text := marking.Text(m)
		fails = append(fails, differing[text] && lacking(text))
		delete(differing, text)
	}
	for text := range differing {
		fails[0] = fails[0] || lacking(text)
	}
	return where(len(fails), func(i int) bool { return fails[i] })
}

// texts returns the set of the texts of markings.
func texts(markings [][]int) map[string]bool {
	set := map[string]bool{}
	for _, m := range markings {
		set[marking.Text(m)] = true
	}
	return set
}

// live reports whether all transitions of a net with this complete state graph are live.
func live(n api.Net, g api.Graph) bool {
	return len(behave.Live(n, g)) == len(n.Trans)
}
