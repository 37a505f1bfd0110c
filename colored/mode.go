package colored

import (
	"slices"

	"petrinet/api"
	"petrinet/binding"
	"petrinet/colorset"
)

// share is the multiset of an arc with a binding.
type share struct {
	place  int
	tokens []int
}

// mode is a transition with a binding whose guards hold. It is impossible if an arc of Pre has no multiset, and over if one of Post has none.
type mode struct {
	pre, post        []share
	impossible, over bool
}

// evaluate returns the mode of a transition of a valid net and a binding.
func evaluate(c api.ColorNet, t int, b []int) mode {
	pre, ok := shares(c, t, c.Trans[t].Pre, b)
	post, fits := shares(c, t, c.Trans[t].Post, b)
	return mode{pre: pre, post: post, impossible: !ok, over: !fits}
}

// shares returns the multisets of arcs, and whether all of them have one.
func shares(c api.ColorNet, t int, arcs []api.ColorArc, b []int) ([]share, bool) {
	var list []share
	for _, a := range arcs {
		tokens, e := binding.Eval(c.Sets, c.Trans[t], c.Places[a.Place].Set, a.Terms, b)
		if e != api.OK {
			return nil, false
		}
		list = append(list, share{a.Place, tokens})
	}
	return list, true
}

// enabled reports whether the places have the tokens that the transition takes.
func (x mode) enabled(m [][]int) bool {
	missing := func(s share) bool { return !colorset.Leq(s.tokens, m[s.place]) }
	return !x.impossible && !slices.ContainsFunc(x.pre, missing)
}

// fire returns the marking after the transition fires, which is enabled.
func (x mode) fire(m [][]int) ([][]int, api.Errno) {
	if x.over {
		return nil, api.ErrOver
	}
	after := make([][]int, len(m))
	for p := range m {
		after[p] = slices.Clone(m[p])
	}
	for _, s := range x.pre {
		after[s.place] = colorset.Sub(after[s.place], s.tokens)
	}
	for _, s := range x.post {
		after[s.place] = colorset.Add(after[s.place], s.tokens)
		// Color sets are not empty: an empty slice is no sum.
		if len(after[s.place]) == 0 {
			return nil, api.ErrOver
		}
	}
	return after, api.OK
}
