package reduction

import (
	"iter"
	"slices"

	"petrinet/api"
	"petrinet/net"
)

// none is no place or no transition.
const none = -1

// rules yields the rules that are applicable to a net, in ascending order.
func rules(n api.Net) iter.Seq[Rule] {
	return func(yield func(Rule) bool) {
		if check(n) != api.OK {
			return
		}
		s := describe(n)
		for r := range candidates(n) {
			if s.permits(r) && !yield(r) {
				return
			}
		}
	}
}

// candidates yields all rules with places or transitions of the net, in ascending order.
func candidates(n api.Net) iter.Seq[Rule] {
	return func(yield func(Rule) bool) {
		places, trans := len(n.Places), len(n.Trans)
		counts := [...]struct{ kind, a, b int }{
			{SamePlace, places, places}, {SameTrans, trans, trans}, {LoopPlace, places, 1}, {FuseTrans, trans, trans}, {FusePlace, places, places},
		}
		for _, c := range counts {
			for a := range c.a {
				for b := range c.b {
					if !yield(Rule{c.kind, a, b}) {
						return
					}
				}
			}
		}
	}
}

// structure is a valid plain net with the producers and consumers of each place, and the weights of its arcs by transitions.
type structure struct {
	net                  api.Net
	producers, consumers [][]int
	pre, post            [api.MaxPlaces][api.MaxTrans]int
}

func describe(n api.Net) *structure {
	s := &structure{net: n}
	for p := range n.Places {
		s.producers = append(s.producers, net.Producers(n, p))
		s.consumers = append(s.consumers, net.Consumers(n, p))
	}
	for t, trans := range n.Trans {
		for _, a := range trans.Pre {
			s.pre[a.Place][t] = a.W
		}
		for _, a := range trans.Post {
			s.post[a.Place][t] = a.W
		}
	}
	return s
}

// permits reports whether a candidate is applicable.
func (s *structure) permits(r Rule) bool {
	switch r.Kind {
	case SamePlace:
		return r.A < r.B && s.pre[r.A] == s.pre[r.B] && s.post[r.A] == s.post[r.B]
	case SameTrans:
		a, b := s.net.Trans[r.A], s.net.Trans[r.B]
		return r.A < r.B && slices.Equal(a.Pre, b.Pre) && slices.Equal(a.Post, b.Post)
	case LoopPlace:
		return len(s.net.Places) > 1 && s.pre[r.A] == s.post[r.A] && slices.Max(s.pre[r.A][:]) <= s.net.Places[r.A].Init
	case FuseTrans:
		return s.permitsFuseTrans(r.A, r.B)
	default:
		return s.permitsFusePlace(r.A, r.B)
	}
}

// permitsFuseTrans need not ask whether there is another place: the second transition produces on one, as only the first one produces on p.
func (s *structure) permitsFuseTrans(a, b int) bool {
	second := s.net.Trans[b]
	if a == b || len(second.Pre) != 1 || second.Pre[0].W != 1 || len(second.Post) == 0 {
		return false
	}
	p := second.Pre[0].Place
	return only(s.producers[p], a) && s.post[p][a] == 1 && only(s.consumers[p], b) && s.net.Places[p].Init == 0
}

// permitsFusePlace need not ask whether there is another transition: the one that moves tokens does not produce on the first place, which has a producer.
func (s *structure) permitsFusePlace(a, b int) bool {
	if a == b || len(s.consumers[a]) != 1 || len(s.producers[a]) == 0 {
		return false
	}
	t := s.net.Trans[s.consumers[a][0]]
	return slices.Equal(t.Pre, []api.Arc{{Place: a, W: 1}}) && slices.Equal(t.Post, []api.Arc{{Place: b, W: 1}})
}

// only reports whether x is the only element of the list.
func only(list []int, x int) bool {
	return len(list) == 1 && list[0] == x
}

// apply returns the net after an applicable rule; weights and tokens may be too great.
func apply(n api.Net, r Rule) api.Net {
	switch r.Kind {
	case SamePlace:
		if n.Places[r.A].Init > n.Places[r.B].Init {
			return without(n, r.A, none)
		}
		return without(n, r.B, none)
	case SameTrans:
		return without(n, none, r.B)
	case LoopPlace:
		return without(n, r.A, none)
	case FuseTrans:
		fused := without(n, none, none)
		fused.Trans[r.A].Post = sum(n.Trans[r.A].Post, n.Trans[r.B].Post)
		return without(fused, n.Trans[r.B].Pre[0].Place, r.B)
	default:
		return fusePlaces(n, r.A, r.B)
	}
}

// fusePlaces returns the net in which two places have become one, without the transition that moves tokens from a to b.
func fusePlaces(n api.Net, a, b int) api.Net {
	kept, gone := min(a, b), max(a, b)
	moved := func(list []api.Arc) []api.Arc {
		list = slices.Clone(list)
		for i := range list {
			if list[i].Place == gone {
				list[i].Place = kept
			}
		}
		return sum(list)
	}
	fused := without(n, none, none)
	fused.Places[kept].Init += n.Places[gone].Init
	for i, t := range n.Trans {
		fused.Trans[i].Pre, fused.Trans[i].Post = moved(t.Pre), moved(t.Post)
	}
	return without(fused, gone, net.Consumers(n, a)[0])
}

// sum returns for each place an arc with the sum of its weights in the lists, in ascending order.
func sum(lists ...[]api.Arc) []api.Arc {
	var weights [api.MaxPlaces]int
	for _, list := range lists {
		for _, a := range list {
			weights[a.Place] += a.W
		}
	}
	var arcs []api.Arc
	for p, w := range weights {
		if w > 0 {
			arcs = append(arcs, api.Arc{Place: p, W: w})
		}
	}
	return arcs
}

// without returns a copy of the net without a place, its arcs, and a transition.
func without(n api.Net, place, trans int) api.Net {
	arcs := func(list []api.Arc) []api.Arc {
		var rest []api.Arc
		for _, a := range list {
			if place != none && a.Place > place {
				rest = append(rest, api.Arc{Place: a.Place - 1, W: a.W})
			} else if a.Place != place {
				rest = append(rest, a)
			}
		}
		return rest
	}
	result := api.Net{Name: n.Name}
	for p := range n.Places {
		if p != place {
			result.Places = append(result.Places, n.Places[p])
		}
	}
	for i, t := range n.Trans {
		if i != trans {
			result.Trans = append(result.Trans, api.Trans{Name: t.Name, Pre: arcs(t.Pre), Post: arcs(t.Post)})
		}
	}
	return result
}
