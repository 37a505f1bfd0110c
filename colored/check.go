package colored

import (
	"slices"

	"petrinet/api"
	"petrinet/binding"
	"petrinet/colorset"
)

// Check returns the first error of a colored net, with its position, or OK at 0.
func Check(c api.ColorNet) api.Fault {
	if !colorset.Name(c.Name) {
		return api.Fault{Errno: api.ErrName}
	}
	if len(c.Sets) < 1 || len(c.Sets) > api.MaxTypes || len(c.Places) < 1 || len(c.Places) > api.MaxPlaces || len(c.Trans) > api.MaxTrans {
		return api.Fault{Errno: api.ErrSize}
	}
	at := 0
	for i := range c.Sets {
		if e := checkSet(c, i); e != api.OK {
			return api.Fault{Errno: e, At: at}
		}
		at++
	}
	for i := range c.Places {
		if e := checkPlace(c, i); e != api.OK {
			return api.Fault{Errno: e, At: at}
		}
		at++
	}
	for i := range c.Trans {
		if e := checkTrans(c, i); e != api.OK {
			return api.Fault{Errno: e, At: at}
		}
		at++
	}
	return api.Fault{}
}

func valid(c api.ColorNet) bool {
	return Check(c).Errno == api.OK
}

func checkSet(c api.ColorNet, i int) api.Errno {
	set := c.Sets[i]
	if e := colorset.Check(set); e != api.OK {
		return e
	}
	if slices.ContainsFunc(c.Sets[:i], func(earlier api.ColorSet) bool { return earlier.Name == set.Name }) {
		return api.ErrTwice
	}
	return api.OK
}

func checkPlace(c api.ColorNet, i int) api.Errno {
	place := c.Places[i]
	switch {
	case !colorset.Name(place.Name):
		return api.ErrName
	case hasPlace(c.Places[:i], place.Name):
		return api.ErrTwice
	case place.Set < 0 || place.Set >= len(c.Sets):
		return api.ErrRange
	case len(place.Init) != len(c.Sets[place.Set].Values) || slices.ContainsFunc(place.Init, isNoCount):
		return api.ErrInit
	}
	return api.OK
}

func hasPlace(places []api.ColorPlace, name string) bool {
	return slices.ContainsFunc(places, func(p api.ColorPlace) bool { return p.Name == name })
}

func hasTrans(trans []api.ColorTrans, name string) bool {
	return slices.ContainsFunc(trans, func(t api.ColorTrans) bool { return t.Name == name })
}

func checkTrans(c api.ColorNet, i int) api.Errno {
	t := c.Trans[i]
	switch {
	case !colorset.Name(t.Name):
		return api.ErrName
	case hasPlace(c.Places, t.Name) || hasTrans(c.Trans[:i], t.Name):
		return api.ErrTwice
	}
	if e := binding.Check(c.Sets, t); e != api.OK {
		return e
	}
	for _, arcs := range [...][]api.ColorArc{t.Pre, t.Post} {
		if e := checkArcs(c, t, arcs); e != api.OK {
			return e
		}
	}
	return api.OK
}

func checkArcs(c api.ColorNet, t api.ColorTrans, arcs []api.ColorArc) api.Errno {
	previous := -1
	for _, a := range arcs {
		switch {
		case a.Place < 0 || a.Place >= len(c.Places):
			return api.ErrNone
		case a.Place <= previous:
			return api.ErrOrder
		case len(a.Terms) == 0:
			return api.ErrEmpty
		}
		if e := binding.CheckTerms(c.Sets, t, c.Places[a.Place].Set, a.Terms); e != api.OK {
			return e
		}
		previous = a.Place
	}
	return api.OK
}
