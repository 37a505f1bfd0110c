package timed

import (
	"slices"

	"petrinet/api"
	"petrinet/marking"
)

// graph has states in the order in which they were found.
type graph struct {
	states []State
	// delayed has the state after a delay by 1 from each state, if there is one, fired those after its ready transitions.
	delayed, fired [][]int
	complete       bool
	limit          int
	// index has the states by their texts.
	index map[string]int
}

// add adds to a list the state that is equal to s. If it is unknown, it becomes a new one, unless there are too many.
func (g *graph) add(list []int, s State) []int {
	text := marking.Text(s.M) + " " + marking.Text(s.Clocks)
	i, known := g.index[text]
	if !known {
		if len(g.states) == g.limit {
			g.complete = false
			return list
		}
		i = len(g.states)
		g.index[text] = i
		g.states = append(g.states, s)
	}
	return append(list, i)
}

// explore returns the graph of the first limit states.
func (x timer) explore(limit int) (*graph, api.Errno) {
	if limit < 1 || limit > api.MaxStates {
		return nil, api.ErrRange
	}
	g := &graph{complete: true, limit: limit, index: map[string]int{}}
	g.add(nil, x.start())
	for i := 0; i < len(g.states); i++ {
		s := g.states[i]
		var delayed, fired []int
		if after, e := x.delay(s, 1); e == api.OK {
			delayed = g.add(delayed, after)
		}
		for _, t := range x.ready(s) {
			after, e := x.fire(s, t)
			if e != api.OK {
				return nil, e
			}
			fired = g.add(fired, after)
		}
		g.delayed = append(g.delayed, delayed)
		g.fired = append(g.fired, fired)
	}
	return g, api.OK
}

// earliest returns the least number of delays on a path to a state with that marking, and true; 0 and false if there is none.
func (g *graph) earliest(m []int) (int, bool) {
	seen := make([]bool, len(g.states))
	now := []int{0}
	for time := 0; len(now) > 0; time++ {
		var later []int
		for k := 0; k < len(now); k++ {
			i := now[k]
			if seen[i] {
				continue
			}
			if slices.Equal(g.states[i].M, m) {
				return time, true
			}
			seen[i] = true
			now = append(now, g.fired[i]...)
			later = append(later, g.delayed[i]...)
		}
		now = later
	}
	return 0, false
}

// Explore returns the reachable states, or the first limit of them, and whether these are all.
func Explore(n api.Net, w []api.Window, limit int) ([]State, bool, api.Errno) {
	x, e := check(n, w)
	if e != api.OK {
		return nil, false, e
	}
	g, e := x.explore(limit)
	if e != api.OK {
		return nil, false, e
	}
	return g.states, g.complete, api.OK
}

// Earliest returns the least number of time units after which the marking can be reached, and true; 0 and false if it cannot be reached.
func Earliest(n api.Net, w []api.Window, m []int, limit int) (int, bool, api.Errno) {
	x, e := check(n, w)
	if e != api.OK {
		return 0, false, e
	}
	if !marking.Valid(m, len(n.Places)) {
		return 0, false, api.ErrSize
	}
	g, e := x.explore(limit)
	switch {
	case e != api.OK:
		return 0, false, e
	case !g.complete:
		return 0, false, api.ErrLimit
	}
	time, ok := g.earliest(m)
	return time, ok, api.OK
}
