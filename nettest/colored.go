package nettest

import (
	"slices"
	"strconv"

	"petrinet/api"
)

// Colored returns a small random colored net, which is valid; the same net for the same seed.
func Colored(seed uint64) api.ColorNet {
	s := sourceOf(seed)
	c := api.ColorNet{Name: "n"}
	for i := range 1 + s.upTo(1) {
		c.Sets = append(c.Sets, api.ColorSet{Name: "s" + strconv.Itoa(i), Values: []string{"a", "b", "c"}[:1+s.upTo(2)]})
	}
	for i := range 1 + s.upTo(2) {
		place := api.ColorPlace{Name: "p" + strconv.Itoa(i), Set: s.upTo(len(c.Sets) - 1)}
		for range c.Sets[place.Set].Values {
			place.Init = append(place.Init, s.upTo(2))
		}
		c.Places = append(c.Places, place)
	}
	for i := range s.upTo(3) {
		t := api.ColorTrans{Name: "t" + strconv.Itoa(i)}
		for k := range s.upTo(2) {
			t.Vars = append(t.Vars, api.Var{Name: "x" + strconv.Itoa(k), Set: s.upTo(len(c.Sets) - 1)})
		}
		if len(t.Vars) == 2 && t.Vars[0].Set == t.Vars[1].Set {
			t.Guards = []api.Guard{{Op: 1 + s.upTo(2), A: 0, B: 1}}
		}
		t.Pre, t.Post = s.colorArcs(c, t), s.colorArcs(c, t)
		c.Trans = append(c.Trans, t)
	}
	return c
}

func (s *source) colorArcs(c api.ColorNet, t api.ColorTrans) []api.ColorArc {
	var arcs []api.ColorArc
	for p, place := range c.Places {
		var terms []api.Term
		for range s.upTo(2) {
			term := api.Term{W: 1 + s.upTo(1), Kind: 1 + s.upTo(4)}
			switch term.Kind {
			case api.Const:
				term.N = s.upTo(len(c.Sets[place.Set].Values) - 1)
			case api.All:
			default:
				term.N = slices.IndexFunc(t.Vars, func(v api.Var) bool { return v.Set == place.Set })
			}
			if term.N >= 0 {
				terms = append(terms, term)
			}
		}
		if len(terms) > 0 {
			arcs = append(arcs, api.ColorArc{Place: p, Terms: terms})
		}
	}
	return arcs
}
