package transform

import (
	"slices"
	"strconv"

	"petrinet/api"
	"petrinet/marking"
	"petrinet/net"
)

// Complement returns a net without capacities and inhibitor arcs and with the same behavior.
func Complement(n api.Net) (api.Net, api.Errno) {
	if e := checkComplement(n); e != api.OK {
		return api.Net{}, e
	}
	result := clone(n)
	for p, place := range n.Places {
		result.Places[p].Cap = 0
		if place.Cap != 0 {
			result.Places = append(result.Places, api.Place{Name: complementName(p), Init: place.Cap - place.Init})
		}
	}
	for i, t := range n.Trans {
		result.Trans[i].Inh = nil
		for k, p := range limited(n) {
			consumed, produced := complementWeights(t, p, n.Places[p].Cap)
			if consumed > api.MaxWeight || produced > api.MaxWeight {
				return api.Net{}, api.ErrWeight
			}
			complement := len(n.Places) + k
			result.Trans[i].Pre = withArc(result.Trans[i].Pre, complement, consumed)
			result.Trans[i].Post = withArc(result.Trans[i].Post, complement, produced)
		}
	}
	return result, api.OK
}

// checkComplement returns the first error of Complement, other than one of weights.
func checkComplement(n api.Net) api.Errno {
	if f := net.Check(n); f.Errno != api.OK {
		return f.Errno
	}
	places, taken := limited(n), names(n)
	unlimited := func(a api.Arc) bool { return n.Places[a.Place].Cap == 0 }
	switch {
	case slices.ContainsFunc(n.Trans, func(t api.Trans) bool { return slices.ContainsFunc(t.Inh, unlimited) }):
		return api.ErrKind
	case len(n.Places)+len(places) > api.MaxPlaces:
		return api.ErrSize
	case slices.ContainsFunc(places, func(p int) bool { return slices.Contains(taken, complementName(p)) }):
		return api.ErrTwice
	}
	return api.OK
}

// limited returns the places with a capacity, in ascending order.
func limited(n api.Net) []int {
	var places []int
	for p, place := range n.Places {
		if place.Cap != 0 {
			places = append(places, p)
		}
	}
	return places
}

func complementName(p int) string {
	return "_" + strconv.Itoa(p)
}

// complementWeights returns how many tokens the transition has to take from the complement of a place, and how many to put on it.
func complementWeights(t api.Trans, p, capacity int) (int, int) {
	change := weight(t.Post, p) - weight(t.Pre, p)
	consumed := max(0, change)
	if w := weight(t.Inh, p); w > 0 {
		// Fewer than w tokens on the place are as many tokens, or more, on its complement.
		consumed = max(consumed, capacity-w+1)
	}
	return consumed, consumed - change
}

// weight returns the weight of the arc of the place, or 0.
func weight(list []api.Arc, p int) int {
	i := slices.IndexFunc(list, func(a api.Arc) bool { return a.Place == p })
	if i < 0 {
		return 0
	}
	return list[i].W
}

// withArc returns the list with one more arc, if its weight is positive.
func withArc(list []api.Arc, p, w int) []api.Arc {
	if w > 0 {
		list = append(list, api.Arc{Place: p, W: w})
	}
	return list
}

// Lift returns the marking of the net of Complement that corresponds to a marking of n.
func Lift(n api.Net, m []int) ([]int, api.Errno) {
	if _, e := Complement(n); e != api.OK {
		return nil, e
	}
	if !marking.Valid(m, len(n.Places)) {
		return nil, api.ErrSize
	}
	if exceeds(n, m) {
		return nil, api.ErrRange
	}
	lifted := slices.Clone(m)
	for _, p := range limited(n) {
		lifted = append(lifted, n.Places[p].Cap-m[p])
	}
	return lifted, api.OK
}
