package audit

import (
	"iter"
	"slices"

	"petrinet/api"
	"petrinet/backward"
	"petrinet/behave"
	"petrinet/karpmiller"
	"petrinet/marking"
	"petrinet/mincover"
	"petrinet/omega"
)

// basisLimit is the greatest limit of backward analysis.
const basisLimit = 1000

// coverage has the checks that compare what can be covered.
type coverage struct {
	subject
}

// cover yields the states at which the coverability set and backward analysis disagree about the marking, or about one with a token more on one place.
func (c coverage) cover() iter.Seq[int] {
	set, complete, e := mincover.Set(c.net, api.MaxStates)
	if e != api.OK || !complete {
		return nowhere()
	}
	return c.contradictions(set)
}

// contradictions yields the states near whose markings backward analysis contradicts a coverability set.
func (c coverage) contradictions(set [][]int) iter.Seq[int] {
	var covered, uncovered [][]int
	for _, m := range c.near() {
		if mincover.Covers(set, m) {
			covered = append(covered, m)
		} else {
			uncovered = append(uncovered, m)
		}
	}
	wrong := map[string]bool{}
	add := func(m []int) { wrong[marking.Text(m)] = true }
	// The check ends at an error: mostly other markings have it too, each after many steps.
	if c.notCoverable(covered, add) {
		c.coverable(uncovered, add)
	}
	return c.states(func(m []int) bool {
		fails := wrong[marking.Text(m)]
		for p := range m {
			fails = fails || wrong[marking.Text(oneMore(m, p))]
		}
		return fails
	})
}

// near returns the markings of the states, and then those with a token more, place by place, each once.
func (c coverage) near() [][]int {
	list := slices.Clone(c.graph.States)
	for p := range c.net.Places {
		for _, m := range c.graph.States {
			if m[p] < api.MaxTokens {
				list = append(list, oneMore(m, p))
			}
		}
	}
	seen := map[string]bool{}
	return slices.DeleteFunc(list, func(m []int) bool {
		text := marking.Text(m)
		again := seen[text]
		seen[text] = true
		return again
	})
}

// oneMore returns the marking with a token more on place p.
func oneMore(m []int, p int) []int {
	more := slices.Clone(m)
	more[p]++
	return more
}

// notCoverable adds the markings that cannot be covered by backward analysis, up to the first one for which that has an error; it reports whether there is none.
func (c coverage) notCoverable(markings [][]int, add func(m []int)) bool {
	for _, m := range markings {
		coverable, e := backward.Coverable(c.net, [][]int{m}, basisLimit)
		if e != api.OK {
			return false
		}
		if !coverable {
			add(m)
		}
	}
	return true
}

// coverable adds the markings that can be covered by backward analysis, up to the first one for which that has an error; it reports whether there is none.
func (c coverage) coverable(markings [][]int, add func(m []int)) bool {
	if len(markings) == 0 {
		return true
	}
	// One analysis tells that none of many markings can be covered. But all of them may be too many for it.
	some, e := backward.Coverable(c.net, markings, basisLimit)
	switch half := len(markings) / 2; {
	case e == api.OK && !some:
		return true
	case half > 0:
		return c.coverable(markings[:half], add) && c.coverable(markings[half:], add)
	case e == api.OK:
		add(markings[0])
	}
	return e == api.OK
}

// tree yields the states that no node of the coverability tree covers.
func (c coverage) tree() iter.Seq[int] {
	nodes, complete, e := karpmiller.Tree(c.net, api.MaxStates)
	if e != api.OK || !complete {
		return nowhere()
	}
	// Other nodes have the same markings.
	nodes = slices.DeleteFunc(nodes, func(node api.Node) bool { return node.Again })
	return c.states(func(m []int) bool {
		return !slices.ContainsFunc(nodes, func(node api.Node) bool { return omega.Covers(node.M, m) })
	})
}

// bounds yields the places of which the coverability set has another bound than the states.
func (c coverage) bounds() iter.Seq[int] {
	set, complete, e := mincover.Set(c.net, api.MaxStates)
	if e != api.OK || !complete {
		return nowhere()
	}
	bounds, greatest := mincover.Bounds(set), behave.Bounds(c.graph)
	return where(len(c.net.Places), func(p int) bool { return bounds[p] != greatest[p] })
}
