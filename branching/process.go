package branching

import (
	"iter"
	"slices"

	"petrinet/api"
	"petrinet/net"
)

// process is the part of a branching process that has been checked, with its relations.
type process struct {
	// inputs and outputs are the places of each transition.
	inputs, outputs [][]int
	conds           []api.Cond
	events          []api.Event
	// consumers has the events that consume each condition; after has those of which such an event is a cause.
	consumers [][]int
	after     []set
	// eaten has the conditions that the causes of each event consume; conflicts has the events in conflict with it.
	eaten, conflicts []set
}

// examine returns a process that passes Check, or the fault.
func examine(n api.Net, b api.Branching) (*process, api.Fault) {
	initial, e := Initial(n)
	if e != api.OK {
		return nil, api.Fault{Errno: e}
	}
	if len(b.Events) > api.MaxEvents {
		return nil, api.Fault{Errno: api.ErrSize}
	}
	start := len(initial.Conds)
	if len(b.Conds) < start || !slices.Equal(b.Conds[:start], initial.Conds) {
		return nil, api.Fault{Errno: api.ErrInit}
	}
	p := &process{}
	for t := range n.Trans {
		p.inputs = append(p.inputs, net.Inputs(n, t))
		p.outputs = append(p.outputs, net.Outputs(n, t))
	}
	p.addConds(initial.Conds)
	for i, event := range b.Events {
		e := p.checkPair(event.Trans, event.Pre)
		if e == api.OK && !p.checkPost(b, i) {
			e = api.ErrNone
		}
		if e != api.OK {
			return nil, api.Fault{Errno: e, At: i}
		}
		p.addEvent(event)
		p.addConds(b.Conds[len(p.conds) : len(p.conds)+len(event.Post)])
	}
	if len(b.Conds) > len(p.conds) {
		return nil, api.Fault{Errno: api.ErrSize, At: len(b.Events)}
	}
	return p, api.Fault{}
}

// checkPair returns the first error of a transition and the conditions that it consumes, as the next event.
func (p *process) checkPair(t int, pre []int) api.Errno {
	switch {
	case t < 0 || t >= len(p.inputs):
		return api.ErrRange
	case len(pre) != len(p.inputs[t]):
		return api.ErrSize
	case !ascending(pre):
		return api.ErrOrder
	case pre[0] < 0 || pre[len(pre)-1] >= len(p.conds):
		return api.ErrNone
	case !slices.Equal(p.places(pre), p.inputs[t]):
		return api.ErrType
	}
	for i, c := range pre {
		for _, d := range pre[:i] {
			if !p.concurrent(c, d) {
				return api.ErrState
			}
		}
	}
	if p.has(t, pre) {
		return api.ErrTwice
	}
	return api.OK
}

func ascending(l []int) bool {
	for i := 1; i < len(l); i++ {
		if l[i-1] >= l[i] {
			return false
		}
	}
	return true
}

// places returns the places of conditions, in ascending order.
func (p *process) places(conds []int) []int {
	list := make([]int, len(conds))
	for i, c := range conds {
		list[i] = p.conds[c].Place
	}
	slices.Sort(list)
	return list
}

// checkPost reports whether the next event, which is that of an index, has the output conditions that it must have.
func (p *process) checkPost(b api.Branching, e int) bool {
	post := b.Events[e].Post
	outputs := p.outputs[b.Events[e].Trans]
	if len(post) != len(outputs) {
		return false
	}
	for i, place := range outputs {
		c := len(p.conds) + i
		if post[i] != c || c >= len(b.Conds) || b.Conds[c] != (api.Cond{Place: place, From: e}) {
			return false
		}
	}
	return true
}

// has reports whether there is an event of the transition that consumes these conditions.
func (p *process) has(t int, pre []int) bool {
	return slices.ContainsFunc(p.consumers[pre[0]], func(e int) bool {
		return p.events[e].Trans == t && slices.Equal(p.events[e].Pre, pre)
	})
}

// concurrent reports whether two conditions are concurrent.
func (p *process) concurrent(c, d int) bool {
	e, f := p.conds[c].From, p.conds[d].From
	if c == d || e >= 0 && p.eaten[e].has(d) || f >= 0 && p.eaten[f].has(c) {
		return false
	}
	return e < 0 || f < 0 || !p.conflicts[e].has(f)
}

// addConds adds conditions.
func (p *process) addConds(conds []api.Cond) {
	p.conds = append(p.conds, conds...)
	p.consumers = append(p.consumers, make([][]int, len(conds))...)
	p.after = append(p.after, make([]set, len(conds))...)
}

// addEvent adds an event that has been checked, without its output conditions.
func (p *process) addEvent(event api.Event) {
	e := len(p.events)
	var eaten, conflicts set
	for _, c := range event.Pre {
		if from := p.conds[c].From; from >= 0 {
			eaten.addAll(p.eaten[from])
			conflicts.addAll(p.conflicts[from])
		}
		// Another consumer of c, and whatever follows it, is in conflict with this event.
		conflicts.addAll(p.after[c])
		p.consumers[c] = append(p.consumers[c], e)
	}
	for _, c := range event.Pre {
		eaten.add(c)
	}
	for f := range conflicts.elements() {
		p.conflicts[f].add(e)
	}
	for c := range eaten.elements() {
		p.after[c].add(e)
	}
	p.events = append(p.events, event)
	p.eaten = append(p.eaten, eaten)
	p.conflicts = append(p.conflicts, conflicts)
}

// cosets yields the ascending lists of pairwise concurrent conditions that have the given places, each once, in lexicographic order, all in the same memory.
func (p *process) cosets(places []int) iter.Seq[[]int] {
	return func(yield func([]int) bool) {
		var chosen []int
		var choose func(candidates []int) bool
		choose = func(candidates []int) bool {
			if len(chosen) == len(places) {
				return yield(chosen)
			}
			for i, c := range candidates {
				chosen = append(chosen, c)
				rest := p.following(c, candidates[i+1:])
				if len(chosen)+p.differentPlaces(rest) == len(places) && !choose(rest) {
					return false
				}
				chosen = chosen[:len(chosen)-1]
			}
			return true
		}
		choose(p.withPlaces(places))
	}
}

// withPlaces returns the conditions that have one of the places, in ascending order.
func (p *process) withPlaces(places []int) []int {
	var list []int
	for c, cond := range p.conds {
		if slices.Contains(places, cond.Place) {
			list = append(list, c)
		}
	}
	return list
}

// following returns those of the candidates that are concurrent with c and have another place.
func (p *process) following(c int, candidates []int) []int {
	var rest []int
	for _, d := range candidates {
		if p.conds[c].Place != p.conds[d].Place && p.concurrent(c, d) {
			rest = append(rest, d)
		}
	}
	return rest
}

// differentPlaces returns how many places the conditions have.
func (p *process) differentPlaces(conds []int) int {
	var seen [api.MaxPlaces]bool
	count := 0
	for _, c := range conds {
		if place := p.conds[c].Place; !seen[place] {
			seen[place] = true
			count++
		}
	}
	return count
}
