package nettest

import (
	"slices"

	"petrinet/api"
)

// Flow returns a random net that comes from a sequence, first by steps that keep it a sound workflow net, and then by changes of arcs that need not; the same net for the same seed.
func Flow(seed uint64, steps, changes int) api.Net {
	s := sourceOf(seed)
	n := s.refined(steps)
	for range changes {
		s.change(&n.Trans[s.upTo(len(n.Trans)-1)], len(n.Places))
	}
	return n
}

// refined returns a sound workflow net.
func (s *source) refined(steps int) api.Net {
	list := [][2][]int{{{0}, {1}}}
	places := 2
	for range steps {
		t := &list[s.upTo(len(list)-1)]
		switch p := t[0][0]; {
		case s.upTo(2) == 0:
			list = append(list, *t)
		case s.upTo(2) == 0 && p != 0 && len(t[0]) == 1:
			// A loop through a new place.
			list = append(list, [2][]int{{p}, {places}}, [2][]int{{places}, {p}})
			places++
		default:
			// Two transitions one after the other, with one or two new places between them.
			between := []int{places, places + 1}[:1+s.upTo(1)]
			after := [2][]int{between, t[1]}
			t[1] = between
			list = append(list, after)
			places += len(between)
		}
	}
	return Ordinary(places, list...)
}

// change adds an arc with one of the places to a transition, or removes it.
func (s *source) change(t *api.Trans, places int) {
	arcs := []*[]api.Arc{&t.Pre, &t.Post}[s.upTo(1)]
	place := s.upTo(places - 1)
	other := func(a api.Arc) bool { return a.Place == place }
	if slices.ContainsFunc(*arcs, other) {
		*arcs = slices.DeleteFunc(*arcs, other)
		return
	}
	*arcs = append(*arcs, api.Arc{Place: place, W: 1 + s.upTo(3)/3})
	slices.SortFunc(*arcs, func(a, b api.Arc) int { return a.Place - b.Place })
}
