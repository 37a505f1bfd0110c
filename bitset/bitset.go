// Package bitset is layer 6: sets of small numbers. See shared/doc/06-bitset.md.
package bitset

import (
	"cmp"
	"iter"
	"math/bits"
	"slices"
)

// Of returns the set of the given numbers; numbers that are not from 0 to 63 are ignored.
func Of(l ...int) uint64 {
	var s uint64
	for _, i := range l {
		s = With(s, i)
	}
	return s
}

// List returns the elements in ascending order.
func List(s uint64) []int {
	var l []int
	for i := range elements(s) {
		l = append(l, i)
	}
	return l
}

// elements yields the elements in ascending order.
func elements(s uint64) iter.Seq[int] {
	return func(yield func(int) bool) {
		for rest := s; rest != 0; rest &= rest - 1 {
			if !yield(bits.TrailingZeros64(rest)) {
				return
			}
		}
	}
}

// Has reports whether s contains i.
func Has(s uint64, i int) bool {
	return s&single(i) != 0
}

// With returns s with i; s itself if i is not from 0 to 63.
func With(s uint64, i int) uint64 {
	return s | single(i)
}

// Without returns s without i.
func Without(s uint64, i int) uint64 {
	return s &^ single(i)
}

// single returns the set of i alone; the empty set if i is not from 0 to 63.
func single(i int) uint64 {
	if i < 0 || i > 63 {
		return 0
	}
	return 1 << i
}

// Len returns the number of elements.
func Len(s uint64) int {
	return bits.OnesCount64(s)
}

// Least returns the least element, or -1 if there is none.
func Least(s uint64) int {
	for i := range elements(s) {
		return i
	}
	return -1
}

// Subset reports whether every element of a is one of b.
func Subset(a, b uint64) bool {
	return a&^b == 0
}

// All returns the numbers from 0 to n - 1, at most 64 of them.
func All(n int) uint64 {
	if n < 0 {
		return 0
	}
	if n > 63 {
		return ^uint64(0)
	}
	return 1<<n - 1
}

// Next returns the next subset of the set of after s, and true; 0 and false if there is none or s is not a subset.
func Next(s, of uint64) (uint64, bool) {
	if !Subset(s, of) || s == of {
		return 0, false
	}
	// With the bits outside of the set filled, a carry passes over them.
	return ((s | ^of) + 1) & of, true
}

// Minimal returns the sets of l without a proper subset in l, each once, in ascending order of Len, and then of the numbers.
func Minimal(l []uint64) []uint64 {
	sorted := slices.Clone(l)
	slices.SortFunc(sorted, func(a, b uint64) int {
		return cmp.Or(cmp.Compare(Len(a), Len(b)), cmp.Compare(a, b))
	})
	var minimal []uint64
	for _, s := range slices.Compact(sorted) {
		// Every subset of s has come before s, and contains one that was kept.
		if !slices.ContainsFunc(minimal, func(m uint64) bool { return Subset(m, s) }) {
			minimal = append(minimal, s)
		}
	}
	return minimal
}
