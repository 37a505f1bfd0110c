package backward

import (
	"slices"

	"petrinet/marking"
)

// element is a marking with the set of the places that have tokens there, by which most pairs of markings are told apart.
type element struct {
	marking []int
	support uint64
}

func elementOf(m []int) element {
	e := element{marking: m}
	for p, tokens := range m {
		if tokens > 0 {
			e.support |= 1 << p
		}
	}
	return e
}

// below reports whether the marking is less than or equal to the other one.
func (e element) below(other element) bool {
	return e.support&^other.support == 0 && marking.Leq(e.marking, other.marking)
}

// antichain is a set of markings none of which is less than or equal to another one.
type antichain []element

// hasBelow reports whether an element is less than or equal to m.
func (a antichain) hasBelow(m element) bool {
	for _, e := range a {
		if e.below(m) {
			return true
		}
	}
	return false
}

// outside returns the markings that are not greater than or equal to an element.
func (a antichain) outside(markings [][]int) [][]int {
	var list [][]int
	for _, m := range markings {
		if !a.hasBelow(elementOf(m)) {
			list = append(list, m)
		}
	}
	return list
}

// add adds an antichain that is outside, and removes the elements that are greater than or equal to one of its markings.
func (a *antichain) add(markings [][]int) {
	var added antichain
	for _, m := range markings {
		added = append(added, elementOf(m))
	}
	*a = append(slices.DeleteFunc(*a, added.hasBelow), added...)
}

// markings returns the elements in lexicographic order.
func (a antichain) markings() [][]int {
	var list [][]int
	for _, e := range a {
		list = append(list, e.marking)
	}
	slices.SortFunc(list, marking.Compare)
	return list
}
