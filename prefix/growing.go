package prefix

import (
	"slices"

	"petrinet/api"
	"petrinet/net"
	"petrinet/process"
)

// growing is a prefix to which the least possible extension is added again and again. As the causes of an extension contain those of the events that it follows, it is greater than these, and the extensions come in ascending order.
type growing struct {
	*process.Process
	// consumers has the transitions that consume the tokens of each place.
	consumers [][]int
	// open has the conditions that are not output conditions of a cut-off event.
	open []int
	// causes has the causes of each event, and levels its level.
	causes []process.Set
	levels []int
	// reached has the initial marking, and the markings of the events that are not cut-off events.
	reached  map[process.Tokens]bool
	possible queue
}

// start returns the prefix without events.
func start(n api.Net, initial api.Branching, limit int) *growing {
	g := &growing{Process: process.New(n, initial.Conds), reached: map[process.Tokens]bool{process.After(initial, nil): true}}
	for p := range n.Places {
		g.consumers = append(g.consumers, net.Consumers(n, p))
	}
	// One extension more than the limit permits is an error.
	g.possible.needed = limit + 1
	g.extend(0)
	return g
}

// grow adds an extension as an event, and reports whether the process remains safe.
func (g *growing) grow(x extension) bool {
	e, produced := len(g.Events), len(g.Conds)
	g.Add(x.trans, x.pre)
	if !g.safe(produced) {
		return false
	}
	x.causes.Add(e)
	g.causes = append(g.causes, x.causes)
	g.levels = append(g.levels, x.level)
	// The causes of an earlier event with this marking are less: they are not greater, and in a safe process different configurations have different forms.
	m := process.After(g.Branching, slices.Collect(x.causes.Elements()))
	if g.reached[m] {
		g.Events[e].Cut = true
		return true
	}
	g.reached[m] = true
	g.extend(produced)
	return true
}

// safe reports whether none of the conditions from the given one on, which are the outputs of one event, is concurrent with another one that has its place.
func (g *growing) safe(produced int) bool {
	for c := produced; c < len(g.Conds); c++ {
		for d, cond := range g.Conds[:produced] {
			if cond.Place == g.Conds[c].Place && g.Concurrent(c, d) {
				return false
			}
		}
	}
	return true
}

// extend opens the conditions from the given one on, and finds the extensions that become possible. Each one is found when its last condition is opened.
func (g *growing) extend(produced int) {
	for c := produced; c < len(g.Conds); c++ {
		place := g.Conds[c].Place
		beside := slices.DeleteFunc(slices.Clone(g.open), func(d int) bool { return !g.Concurrent(c, d) })
		for _, t := range g.consumers[place] {
			others := slices.DeleteFunc(slices.Clone(g.Inputs[t]), func(p int) bool { return p == place })
			for coset := range g.Cosets(others, beside) {
				g.possible.insert(g.extension(t, append(slices.Clone(coset), c)))
			}
		}
		g.open = append(g.open, c)
	}
}

// extension returns the extension of a transition that consumes these conditions.
func (g *growing) extension(t int, pre []int) extension {
	x := extension{trans: t, pre: pre, level: 1}
	for _, c := range pre {
		if e := g.Conds[c].From; e >= 0 {
			x.causes.AddAll(g.causes[e])
			x.level = max(x.level, g.levels[e]+1)
		}
	}
	form := make([][]int, x.level)
	for e := range x.causes.Elements() {
		level := g.levels[e] - 1
		form[level] = append(form[level], g.Events[e].Trans)
	}
	form[x.level-1] = append(form[x.level-1], t)
	x.order(form)
	return x
}
