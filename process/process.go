// Package process holds branching processes together with their relations, and lets them grow. Other packages use it.
package process

import (
	"iter"
	"slices"

	"petrinet/api"
	"petrinet/net"
)

// Process is a branching process with its relations.
type Process struct {
	api.Branching
	// Inputs and Outputs are the places of each transition, in ascending order.
	Inputs, Outputs [][]int
	// consumers has the events that consume each condition; after has those of which such an event is a cause.
	consumers [][]int
	after     []Set
	// eaten has the conditions that the causes of each event consume; conflicts has the events in conflict with it.
	eaten, conflicts []Set
}

// New returns the process of a net that consists of its initial conditions.
func New(n api.Net, initial []api.Cond) *Process {
	p := &Process{}
	for t := range n.Trans {
		p.Inputs = append(p.Inputs, net.Inputs(n, t))
		p.Outputs = append(p.Outputs, net.Outputs(n, t))
	}
	p.addConds(initial...)
	return p
}

// Has reports whether there is an event of the transition that consumes these conditions, of which there is at least one.
func (p *Process) Has(t int, pre []int) bool {
	return slices.ContainsFunc(p.consumers[pre[0]], func(e int) bool {
		return p.Events[e].Trans == t && slices.Equal(p.Events[e].Pre, pre)
	})
}

// Concurrent reports whether two conditions are concurrent.
func (p *Process) Concurrent(c, d int) bool {
	e, f := p.Conds[c].From, p.Conds[d].From
	if c == d || e >= 0 && p.eaten[e].Has(d) || f >= 0 && p.eaten[f].Has(c) {
		return false
	}
	return e < 0 || f < 0 || !p.conflicts[e].Has(f)
}

// Parallel reports whether two different events are not in conflict, and neither is before the other one. Where an event has taken a condition of another one, it comes after this one, or is in conflict with it.
func (p *Process) Parallel(e, f int) bool {
	return !p.conflicts[e].Has(f) && !p.eaten[e].Has(p.Events[f].Pre[0]) && !p.eaten[f].Has(p.Events[e].Pre[0])
}

// Add adds an event, which must be possible, and its output conditions.
func (p *Process) Add(t int, pre []int) {
	e := len(p.Events)
	event := api.Event{Trans: t, Pre: slices.Clone(pre)}
	p.relate(e, event.Pre)
	for _, place := range p.Outputs[t] {
		event.Post = append(event.Post, len(p.Conds))
		p.addConds(api.Cond{Place: place, From: e})
	}
	p.Events = append(p.Events, event)
}

func (p *Process) addConds(conds ...api.Cond) {
	p.Conds = append(p.Conds, conds...)
	p.consumers = append(p.consumers, make([][]int, len(conds))...)
	p.after = append(p.after, make([]Set, len(conds))...)
}

// relate adds the relations of a new event that consumes these conditions.
func (p *Process) relate(e int, pre []int) {
	var eaten, conflicts Set
	for _, c := range pre {
		if from := p.Conds[c].From; from >= 0 {
			eaten.AddAll(p.eaten[from])
			conflicts.AddAll(p.conflicts[from])
		}
		// Another consumer of c, and whatever follows it, is in conflict with this event.
		conflicts.AddAll(p.after[c])
		p.consumers[c] = append(p.consumers[c], e)
	}
	for _, c := range pre {
		eaten.Add(c)
	}
	for f := range conflicts.Elements() {
		p.conflicts[f].Add(e)
	}
	for c := range eaten.Elements() {
		p.after[c].Add(e)
	}
	p.eaten = append(p.eaten, eaten)
	p.conflicts = append(p.conflicts, conflicts)
}

// Cosets yields the ascending lists of pairwise concurrent conditions that have the given places, each once, in lexicographic order, all in the same memory. The conditions are among the candidates, which are in ascending order.
func (p *Process) Cosets(places, candidates []int) iter.Seq[[]int] {
	return func(yield func([]int) bool) {
		var chosen []int
		var choose func(candidates []int) bool
		choose = func(candidates []int) bool {
			missing := len(places) - len(chosen)
			if missing == 0 {
				return yield(chosen)
			}
			if p.differentPlaces(candidates) < missing {
				return true
			}
			for i, c := range candidates {
				var rest []int
				if missing > 1 {
					rest = p.following(c, candidates[i+1:])
				}
				chosen = append(chosen, c)
				if !choose(rest) {
					return false
				}
				chosen = chosen[:len(chosen)-1]
			}
			return true
		}
		choose(p.withPlaces(places, candidates))
	}
}

// withPlaces returns those of the candidates that have one of the places.
func (p *Process) withPlaces(places, candidates []int) []int {
	var list []int
	for _, c := range candidates {
		if slices.Contains(places, p.Conds[c].Place) {
			list = append(list, c)
		}
	}
	return list
}

// following returns those of the candidates that are concurrent with c and have another place.
func (p *Process) following(c int, candidates []int) []int {
	var rest []int
	for _, d := range candidates {
		if p.Conds[c].Place != p.Conds[d].Place && p.Concurrent(c, d) {
			rest = append(rest, d)
		}
	}
	return rest
}

// differentPlaces returns how many places the conditions have.
func (p *Process) differentPlaces(conds []int) int {
	var seen [api.MaxPlaces]bool
	count := 0
	for _, c := range conds {
		if place := p.Conds[c].Place; !seen[place] {
			seen[place] = true
			count++
		}
	}
	return count
}
