package branching

import (
	"slices"

	"petrinet/api"
	"petrinet/process"
)

// examine returns a process that passes Check, or the fault.
func examine(n api.Net, b api.Branching) (*process.Process, api.Fault) {
	initial, e := Initial(n)
	if e != api.OK {
		return nil, api.Fault{Errno: e}
	}
	if len(b.Events) > api.MaxEvents {
		return nil, api.Fault{Errno: api.ErrSize}
	}
	start := len(initial.Conds)
	if len(b.Conds) < start || !slices.Equal(b.Conds[:start], initial.Conds) {
		return nil, api.Fault{Errno: api.ErrInit}
	}
	p := process.New(n, initial.Conds)
	for i, event := range b.Events {
		if e := checkPair(p, event.Trans, event.Pre); e != api.OK {
			return nil, api.Fault{Errno: e, At: i}
		}
		produced := len(p.Conds)
		p.Add(event.Trans, event.Pre)
		p.Events[i].Cut = event.Cut
		if !slices.Equal(event.Post, p.Events[i].Post) || len(b.Conds) < len(p.Conds) || !slices.Equal(b.Conds[produced:len(p.Conds)], p.Conds[produced:]) {
			return nil, api.Fault{Errno: api.ErrNone, At: i}
		}
	}
	if len(b.Conds) > len(p.Conds) {
		return nil, api.Fault{Errno: api.ErrSize, At: len(b.Events)}
	}
	return p, api.Fault{}
}

// checkPair returns the first error of a transition and the conditions that it consumes, as the next event.
func checkPair(p *process.Process, t int, pre []int) api.Errno {
	switch {
	case t < 0 || t >= len(p.Inputs):
		return api.ErrRange
	case len(pre) != len(p.Inputs[t]):
		return api.ErrSize
	case !ascending(pre):
		return api.ErrOrder
	case pre[0] < 0 || pre[len(pre)-1] >= len(p.Conds):
		return api.ErrNone
	case !slices.Equal(places(p, pre), p.Inputs[t]):
		return api.ErrType
	}
	for i, c := range pre {
		for _, d := range pre[:i] {
			if !p.Concurrent(c, d) {
				return api.ErrState
			}
		}
	}
	if p.Has(t, pre) {
		return api.ErrTwice
	}
	return api.OK
}

func ascending(l []int) bool {
	for i := 1; i < len(l); i++ {
		if l[i-1] >= l[i] {
			return false
		}
	}
	return true
}

// places returns the places of conditions, in ascending order.
func places(p *process.Process, conds []int) []int {
	list := make([]int, len(conds))
	for i, c := range conds {
		list[i] = p.Conds[c].Place
	}
	slices.Sort(list)
	return list
}
