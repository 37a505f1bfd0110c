package prefixq

import (
	"iter"

	"petrinet/api"
	"petrinet/branching"
	"petrinet/config"
	"petrinet/process"
)

// maxConfigurations is how many configurations are examined at most.
const maxConfigurations = 5000

// listing is a process without cut-off events, with all of its configurations.
type listing struct {
	api.Branching
	all [][]int
}

// list returns the process without its cut-off events, or the error of Markings.
func list(n api.Net, b api.Branching) (listing, api.Errno) {
	p, e := uncut(n, b)
	if e != api.OK {
		return listing{}, e
	}
	all, e := config.All(p.Branching, maxConfigurations)
	return listing{p.Branching, all}, e
}

// configurations yields the configurations in their order, each with its marking.
func (l listing) configurations() iter.Seq2[[]int, process.Tokens] {
	return func(yield func([]int, process.Tokens) bool) {
		for _, c := range l.all {
			if !yield(c, process.After(l.Branching, c)) {
				return
			}
		}
	}
}

// uncut returns the process without its cut-off events and what follows them, or the error of branching.Check.
func uncut(n api.Net, b api.Branching) (*process.Process, api.Errno) {
	if f := branching.Check(n, b); f.Errno != api.OK {
		return nil, f.Errno
	}
	return part(n, b, func(e api.Event) bool { return !e.Cut }), api.OK
}

// part returns the process of those events that have a property, as all of their causes have, in the same order. The given process must pass branching.Check.
func part(n api.Net, b api.Branching, has func(api.Event) bool) *process.Process {
	initial, _ := branching.Initial(n)
	p := process.New(n, initial.Conds)
	// index has the index in p of each condition that p has.
	index := map[int]int{}
	for c := range initial.Conds {
		index[c] = c
	}
	for _, event := range b.Events {
		pre, all := moved(event.Pre, index)
		if !all || !has(event) {
			continue
		}
		for i, c := range event.Post {
			index[c] = len(p.Conds) + i
		}
		p.Add(event.Trans, pre)
	}
	return p
}

// moved returns the new indices of conditions, and whether all of them have one.
func moved(conds []int, index map[int]int) ([]int, bool) {
	var list []int
	for _, c := range conds {
		if i, ok := index[c]; ok {
			list = append(list, i)
		}
	}
	return list, len(list) == len(conds)
}
