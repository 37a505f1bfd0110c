package ctl

import (
	"petrinet/api"
	"petrinet/digraph"
	"petrinet/explore"
	"petrinet/predicate"
)

// set is a set of states: it reports whether a state is an element.
type set func(state int) bool

func everywhere(int) bool {
	return true
}

func except(s set) set {
	return func(state int) bool { return !s(state) }
}

func both(a, b set) set {
	return func(state int) bool { return a(state) && b(state) }
}

// listed returns the set of the states with true. The temporal operators return such sets, so that no set is computed again for each of its uses.
func listed(members []bool) set {
	return func(state int) bool { return members[state] }
}

// leaf is a predicate without kids, apart from these.
type leaf struct {
	kind, n, rel, value int
}

// checker computes the sets of states at which the formulas of a net hold.
type checker struct {
	n api.Net
	g api.Graph
	// successors and predecessors are those on paths: each state has a successor.
	successors, predecessors [][]int
	leaves                   map[leaf]set
}

func checkerOf(n api.Net, g api.Graph) *checker {
	c := &checker{n: n, g: g, successors: explore.Adjacency(g), leaves: map[leaf]set{}}
	for state, list := range c.successors {
		if len(list) == 0 {
			c.successors[state] = []int{state}
		}
	}
	c.predecessors = digraph.Reverse(c.successors)
	return c
}

// list reports for each state whether it is an element.
func (c *checker) list(s set) []bool {
	members := make([]bool, len(c.g.States))
	for state := range members {
		members[state] = s(state)
	}
	return members
}

// where returns the states at which a formula holds.
func (c *checker) where(f api.Formula) set {
	switch len(f.Kids) {
	case 0:
		return c.whereLeaf(f)
	case 1:
		return c.whereOne(f.Kind, c.where(f.Kids[0]))
	}
	return c.whereTwo(f.Kind, c.where(f.Kids[0]), c.where(f.Kids[1]))
}

// whereLeaf returns the states at which a predicate without kids holds.
func (c *checker) whereLeaf(f api.Formula) set {
	key := leaf{f.Kind, f.N, f.Rel, f.Value}
	if s, known := c.leaves[key]; known {
		return s
	}
	members := make([]bool, len(c.g.States))
	for state, m := range c.g.States {
		members[state], _ = predicate.Eval(c.n, f, m)
	}
	c.leaves[key] = listed(members)
	return c.leaves[key]
}

// whereOne returns the states at which a formula with one kid holds.
func (c *checker) whereOne(kind int, kid set) set {
	opposite := func(s set) set { return s }
	switch kind {
	case api.AX:
		// What all paths have is that of which no path has the opposite.
		opposite = except
		fallthrough
	case api.EX:
		return opposite(c.next(opposite(kid)))
	case api.AF:
		opposite = except
		fallthrough
	case api.EG:
		return opposite(c.always(opposite(kid)))
	case api.AG:
		opposite = except
		fallthrough
	case api.EF:
		return opposite(c.until(everywhere, opposite(kid)))
	}
	return except(kid)
}

// whereTwo returns the states at which a formula with two kids holds.
func (c *checker) whereTwo(kind int, first, last set) set {
	switch kind {
	case api.And:
		return both(first, last)
	case api.Or:
		return func(state int) bool { return first(state) || last(state) }
	case api.EU:
		return c.until(first, last)
	}
	never, failing := c.always(except(last)), c.until(except(last), both(except(first), except(last)))
	return both(except(never), except(failing))
}

// next returns the states from which some path has its second state in s.
func (c *checker) next(s set) set {
	inside := c.list(s)
	members := make([]bool, len(inside))
	for state, list := range c.successors {
		for _, to := range list {
			members[state] = members[state] || inside[to]
		}
	}
	return listed(members)
}

// until returns the states from which some path has a state in last, and all states before that in first.
func (c *checker) until(first, last set) set {
	members, allowed := c.list(last), c.list(first)
	var found []int
	for state := range members {
		if members[state] {
			found = append(found, state)
		}
	}
	for i := 0; i < len(found); i++ {
		for _, state := range c.predecessors[found[i]] {
			if !members[state] && allowed[state] {
				members[state] = true
				found = append(found, state)
			}
		}
	}
	return listed(members)
}

// always returns the states from which some path has all states in s.
func (c *checker) always(s set) set {
	members := c.list(s)
	// open has the number of successors of each state that may be on such a path.
	open := make([]int, len(members))
	var lost []int
	for state, list := range c.successors {
		open[state] = len(list)
		if !members[state] {
			lost = append(lost, state)
		}
	}
	for i := 0; i < len(lost); i++ {
		for _, state := range c.predecessors[lost[i]] {
			open[state]--
			if members[state] && open[state] == 0 {
				members[state] = false
				lost = append(lost, state)
			}
		}
	}
	return listed(members)
}
