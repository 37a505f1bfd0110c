// Package nettest makes small nets and explores them, for the tests of other packages.
package nettest

import (
	"slices"
	"strconv"

	"petrinet/api"
	"petrinet/firing"
	"petrinet/marking"
	"petrinet/net"
	"petrinet/random"
)

// Shape bounds the nets of Random: the numbers of places and transitions, the tokens of a place, the weights, the capacities above the tokens, the weights of inhibitor arcs, and the priorities. Where one of the last three is 0, there are none.
type Shape struct {
	Places, Trans, Tokens, Weight int
	Cap, Inh, Prio                int
}

// sparseness is how many places there are for one that a list of arcs contains, on average.
const sparseness = 3

// source makes numbers from a seed.
type source struct {
	seed uint64
}

func sourceOf(seed uint64) *source {
	return &source{random.Steps(seed, 2)}
}

// upTo returns a number from 0 to n.
func (s *source) upTo(n int) int {
	x, next := random.Below(s.seed, n+1)
	s.seed = next
	return x
}

// Random returns a valid net of that shape, whose Places, Trans and Weight must be at least 1; the same net for the same seed.
func Random(seed uint64, shape Shape) api.Net {
	s := sourceOf(seed)
	n := api.Net{Name: "n" + strconv.FormatUint(seed, 10)}
	for p := range 1 + s.upTo(shape.Places-1) {
		place := api.Place{Name: "p" + strconv.Itoa(p), Init: s.upTo(shape.Tokens)}
		if shape.Cap > 0 && s.upTo(1) > 0 {
			place.Cap = max(1, place.Init+s.upTo(shape.Cap))
		}
		n.Places = append(n.Places, place)
	}
	for t := range s.upTo(shape.Trans) {
		trans := api.Trans{Name: "t" + strconv.Itoa(t)}
		trans.Pre = s.arcs(len(n.Places), shape.Weight)
		trans.Post = s.arcs(len(n.Places), shape.Weight)
		if shape.Inh > 0 {
			trans.Inh = s.arcs(len(n.Places), shape.Inh)
		}
		if shape.Prio > 0 {
			trans.Prio = s.upTo(shape.Prio)
		}
		n.Trans = append(n.Trans, trans)
	}
	return n
}

func (s *source) arcs(places, weight int) []api.Arc {
	var list []api.Arc
	for p := range places {
		if s.upTo(sparseness-1) == 0 {
			list = append(list, api.Arc{Place: p, W: 1 + s.upTo(weight-1)})
		}
	}
	return list
}

// Arcs returns arcs, each given by its place and its weight.
func Arcs(numbers ...int) []api.Arc {
	var list []api.Arc
	for i := 0; i+1 < len(numbers); i += 2 {
		list = append(list, api.Arc{Place: numbers[i], W: numbers[i+1]})
	}
	return list
}

// Ones returns arcs with the weight 1.
func Ones(places ...int) []api.Arc {
	var list []api.Arc
	for _, p := range places {
		list = append(list, api.Arc{Place: p, W: 1})
	}
	return list
}

// Ordinary returns a net without tokens whose weights are 1, with transitions that are given by their input and output places.
func Ordinary(places int, trans ...[2][]int) api.Net {
	n := api.Net{Name: "n"}
	for p := range places {
		n.Places = append(n.Places, api.Place{Name: "p" + strconv.Itoa(p)})
	}
	for i, t := range trans {
		n.Trans = append(n.Trans, api.Trans{Name: "t" + strconv.Itoa(i), Pre: Ones(t[0]...), Post: Ones(t[1]...)})
	}
	return n
}

// Marked returns the net with one token on each of the places; it changes the net.
func Marked(n api.Net, places ...int) api.Net {
	for _, p := range places {
		n.Places[p].Init = 1
	}
	return n
}

// Admitting returns a random net that admits processes; the same net for the same seed.
func Admitting(seed uint64) api.Net {
	n := Random(seed, Shape{Places: 7, Trans: 6, Tokens: 1, Weight: 1})
	n.Trans = slices.DeleteFunc(n.Trans, func(t api.Trans) bool { return len(t.Pre) == 0 })
	return n
}

// Parts returns a random safe net of parts with so many places and one token each, which the transitions move; the same net for the same seed.
func Parts(seed uint64, count, places, transitions int) api.Net {
	s := sourceOf(seed)
	var list [][2][]int
	for range transitions {
		var t [2][]int
		always := s.upTo(count - 1)
		for part := range count {
			if part == always || s.upTo(sparseness-1) == 0 {
				t[0] = append(t[0], part*places+s.upTo(places-1))
				t[1] = append(t[1], part*places+s.upTo(places-1))
			}
		}
		list = append(list, t)
	}
	n := Ordinary(count*places, list...)
	for part := range count {
		n.Places[part*places+s.upTo(places-1)].Init = 1
	}
	return n
}

// Reachable returns the reachable markings of a valid net in breadth-first order, at most limit of them, and whether these are all.
func Reachable(n api.Net, limit int) ([][]int, bool) {
	found := [][]int{net.Initial(n)}
	seen := map[string]bool{marking.Text(found[0]): true}
	for i := 0; i < len(found); i++ {
		for _, t := range firing.List(n, found[i]) {
			m, e := firing.Fire(n, found[i], t)
			if e != api.OK || len(found) == limit && !seen[marking.Text(m)] {
				return found, false
			}
			if !seen[marking.Text(m)] {
				seen[marking.Text(m)] = true
				found = append(found, m)
			}
		}
	}
	return found, true
}
