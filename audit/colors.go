package audit

import (
	"iter"
	"slices"

	"petrinet/api"
	"petrinet/cunfold"
	"petrinet/explore"
)

// colors has the check of a colored net with these reachable markings.
type colors struct {
	net      api.ColorNet
	markings [][][]int
}

// colored yields the markings to which no state of the unfolding corresponds, and the states to which no marking corresponds.
func (c colors) colored() iter.Seq[int] {
	unfolded, e := cunfold.Unfold(c.net)
	if e != api.OK {
		return nowhere()
	}
	g, e := explore.Explore(unfolded, api.MaxStates)
	if e != api.OK || !g.Complete {
		return nowhere()
	}
	// Both explorations find corresponding markings in the same order.
	return where(max(len(c.markings), len(g.States)), func(i int) bool {
		if i >= len(c.markings) || i >= len(g.States) {
			return true
		}
		m, e := cunfold.Marking(c.net, c.markings[i])
		return e == api.OK && !slices.Equal(m, g.States[i])
	})
}
