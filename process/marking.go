package process

import "petrinet/api"

// Tokens has the number of tokens of each place.
type Tokens [api.MaxPlaces]int

// After returns the marking of a configuration of a process that passes branching.Check, which config.Marking would check each time.
func After(b api.Branching, events []int) Tokens {
	var m Tokens
	for _, cond := range b.Conds {
		if cond.From >= 0 {
			break
		}
		m[cond.Place]++
	}
	for _, e := range events {
		for _, c := range b.Events[e].Pre {
			m[b.Conds[c].Place]--
		}
		for _, c := range b.Events[e].Post {
			m[b.Conds[c].Place]++
		}
	}
	return m
}
