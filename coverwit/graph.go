package coverwit

import (
	"slices"

	"petrinet/api"
	"petrinet/firing"
	"petrinet/marking"
)

// graph is the part of a state graph around the initial marking, with its states in the order of layer 14.
type graph struct {
	net      api.Net
	index    map[string]int
	markings [][]int
	// seqs has the lexicographically least of the shortest sequences to each state.
	seqs [][]int
	// edges has the edges from each state that has been expanded, in ascending order of their transitions.
	edges [][]api.Edge
	// visits has for each state the number of the last call of gain that visited it, the last of which has the number calls.
	visits []int
	calls  int
}

// add returns the state with the marking. If there is none yet, it is added with the sequence that leads to it.
func (g *graph) add(m, seq []int) int {
	text := marking.Text(m)
	i, known := g.index[text]
	if !known {
		i = len(g.markings)
		g.index[text] = i
		g.markings = append(g.markings, m)
		g.seqs = append(g.seqs, seq)
		g.visits = append(g.visits, 0)
	}
	return i
}

// expand adds the edges from all states that are known but not expanded, and the states to which they lead.
func (g *graph) expand() {
	known := len(g.markings)
	for i := len(g.edges); i < known; i++ {
		var edges []api.Edge
		for _, t := range firing.List(g.net, g.markings[i]) {
			m, e := firing.Fire(g.net, g.markings[i], t)
			if e != api.OK {
				// Sequences that exceed MaxTokens do not count.
				continue
			}
			edges = append(edges, api.Edge{From: i, Trans: t, To: g.add(m, extended(g.seqs[i], t))})
		}
		g.edges = append(g.edges, edges)
	}
}

// extended returns a sequence with one more transition, in memory of its own.
func extended(seq []int, t int) []int {
	return append(seq[:len(seq):len(seq)], t)
}

// pump returns, of all pairs of sequences of that length together, the one that Pump returns, and true, provided that there is no shorter pair; false if there is none.
func (g *graph) pump(place, length int) (first, second []int, ok bool) {
	var best []int
	for i, seq := range g.seqs {
		if len(seq) >= length {
			break
		}
		// As there is no shorter pair, both sequences are shortest ones, and the second one fills up the length.
		gain := g.gain(i, place, length-len(seq))
		if gain == nil {
			continue
		}
		// The first sequences get longer: of equal pairs the last one is wanted.
		if both := slices.Concat(seq, gain); !ok || slices.Compare(both, best) <= 0 {
			best, first, second, ok = both, slices.Clone(seq), gain, true
		}
	}
	return first, second, ok
}

// reached is a state with the sequence that leads to it from where a search began.
type reached struct {
	state int
	seq   []int
}

// gain returns the lexicographically least of the shortest sequences from a state to one that is at least as great, and greater on the place; nil if none has at most that many transitions.
func (g *graph) gain(from, place, most int) []int {
	g.calls++
	g.visits[from] = g.calls
	frontier := []reached{{state: from}}
extension:
	for len(frontier) > 0 {
		r := frontier[0]
		frontier = frontier[1:]
		if len(r.seq) == most {
			break extension
		}
		for _, e := range g.edges[r.state] {
			if g.visits[e.To] == g.calls {
				continue
			}
			g.visits[e.To] = g.calls
			seq := extended(r.seq, e.Trans)
			if marking.Leq(g.markings[from], g.markings[e.To]) && g.markings[from][place] < g.markings[e.To][place] {
				return seq
			}
			frontier = append(frontier, reached{e.To, seq})
		}
	}
	return nil
}
