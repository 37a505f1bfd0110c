package align

import (
	"cmp"
	"container/heap"
	"slices"

	"petrinet/api"
	"petrinet/explore"
)

// model is the state graph of a net, which is complete and contains the final marking.
type model struct {
	trans []api.Trans
	// edges has the edges from each state.
	edges [][]api.Edge
	final int
}

// build returns the model of valid arguments.
func build(n api.Net, final []int, limit int) (model, api.Errno) {
	g, e := explore.Explore(n, limit)
	if e != api.OK {
		return model{}, e
	}
	m := model{trans: n.Trans, edges: make([][]api.Edge, len(g.States)), final: explore.Find(g, final)}
	switch {
	case !g.Complete:
		return model{}, api.ErrLimit
	case m.final < 0:
		return model{}, api.ErrNone
	}
	for _, e := range g.Edges {
		m.edges[e.From] = append(m.edges[e.From], e)
	}
	return m, api.OK
}

// price is what an alignment costs, and the number of its moves, which decides between equal costs.
type price struct {
	cost, moves int
}

// compare orders prices.
func (p price) compare(q price) int {
	return cmp.Or(cmp.Compare(p.cost, q.cost), cmp.Compare(p.moves, q.moves))
}

// node is a position in the trace together with a state: the least known price to reach it, and the move and the node before.
type node struct {
	price
	move   api.Move
	before int
	known  bool
}

// entry is a node of the frontier with the price for which it was added.
type entry struct {
	price
	node int
}

// byPrice is a list of entries that can be sorted.
type byPrice []entry

func (l byPrice) Len() int           { return len(l) }
func (l byPrice) Less(i, j int) bool { return l[i].compare(l[j].price) < 0 }
func (l byPrice) Swap(i, j int)      { l[i], l[j] = l[j], l[i] }

// frontier is a heap with an entry of the least price first.
type frontier struct {
	byPrice
}

func (f *frontier) Push(x any) {
	f.byPrice = append(f.byPrice, x.(entry))
}

func (f *frontier) Pop() any {
	last := len(f.byPrice) - 1
	e := f.byPrice[last]
	f.byPrice = f.byPrice[:last]
	return e
}

// search looks for the best alignment of a trace with a model. The node of position i and state s has the index i * states + s.
type search struct {
	model
	trace    []string
	cost     Cost
	nodes    []node
	frontier frontier
}

// align returns an alignment of the least cost with the fewest moves, and its cost.
func (m model) align(trace []string, cost Cost) ([]api.Move, int) {
	states := len(m.edges)
	s := search{model: m, trace: trace, cost: cost, nodes: make([]node, (len(trace)+1)*states)}
	goal := len(trace)*states + m.final
	s.reach(0, node{known: true})
	for s.frontier.Len() > 0 {
		next := heap.Pop(&s.frontier).(entry)
		if next.node == goal {
			break
		}
		// An entry is out of date if the node has been reached for less since.
		if next.price == s.nodes[next.node].price {
			s.leave(next.node)
		}
	}
	return s.restore(goal), s.nodes[goal].cost
}

// reach adds a way to a node, if it is better than all ways that are known.
func (s *search) reach(i int, way node) {
	if s.nodes[i].known && s.nodes[i].compare(way.price) <= 0 {
		return
	}
	s.nodes[i] = way
	heap.Push(&s.frontier, entry{way.price, i})
}

// leave makes all moves that are possible at a node.
func (s *search) leave(i int) {
	states := len(s.edges)
	position, state := i/states, i%states
	move := func(to, kind, trans, cost int) {
		way := node{price: s.nodes[i].price, move: api.Move{Kind: kind, Trans: trans}, before: i, known: true}
		way.cost += cost
		way.moves++
		s.reach(to, way)
	}
	if position < len(s.trace) {
		move(i+states, api.InLog, -1, s.cost.Log)
	}
	for _, e := range s.edges[state] {
		t := s.trans[e.Trans]
		to := position*states + e.To
		if silent(t) {
			move(to, api.Silent, e.Trans, 0)
			continue
		}
		move(to, api.InNet, e.Trans, s.cost.Net)
		if position < len(s.trace) && t.Name == s.trace[position] {
			move(to+states, api.Both, e.Trans, 0)
		}
	}
}

// restore returns the moves that lead to a node.
func (s *search) restore(i int) []api.Move {
	var moves []api.Move
restoring:
	for {
		switch i {
		case 0:
			break restoring
		default:
			moves = append(moves, s.nodes[i].move)
			i = s.nodes[i].before
		}
	}
	slices.Reverse(moves)
	return moves
}
