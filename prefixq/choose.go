package prefixq

import (
	"slices"

	"petrinet/process"
)

// choose reports whether pairwise concurrent conditions can be chosen, one from each list: a configuration has such conditions in its cut. It changes the elements of lists.
func choose(p *process.Process, lists [][]int) bool {
	if !narrow(p, lists) {
		return false
	}
	shortest := -1
	for i, l := range lists {
		if len(l) > 1 && (shortest < 0 || len(l) < len(lists[shortest])) {
			shortest = i
		}
	}
	if shortest < 0 {
		return true
	}
	return slices.ContainsFunc(lists[shortest], func(c int) bool {
		rest := slices.Clone(lists)
		rest[shortest] = []int{c}
		return choose(p, rest)
	})
}

// narrow takes the conditions that are concurrent with none of another list out of the lists, again and again, and reports whether no list becomes empty. Without this, choices that can't matter would be tried in all combinations before lists that exclude each other.
func narrow(p *process.Process, lists [][]int) bool {
	for changed := true; changed; {
		changed = false
		for i := range lists {
			for j := range lists {
				if i == j {
					continue
				}
				kept := supported(p, lists[i], lists[j])
				changed = changed || len(kept) < len(lists[i])
				lists[i] = kept
			}
			if len(lists[i]) == 0 {
				return false
			}
		}
	}
	return true
}

// supported returns those of the conditions that are concurrent with one of the others.
func supported(p *process.Process, conds, others []int) []int {
	var kept []int
	at := 0
	for _, c := range conds {
		// Neighbors often are concurrent with the same one: the search goes on where the one before has ended.
		for range others {
			if p.Concurrent(c, others[at]) {
				kept = append(kept, c)
				break
			}
			at = (at + 1) % len(others)
		}
	}
	return kept
}
