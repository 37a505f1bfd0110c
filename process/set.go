package process

import (
	"iter"
	"math/bits"
)

// Set is a set of natural numbers, one bit for each.
type Set []uint64

// Has reports whether the set contains i.
func (s Set) Has(i int) bool {
	return i/64 < len(s) && s[i/64]&(1<<(i%64)) != 0
}

// Add adds i.
func (s *Set) Add(i int) {
	s.widen(i/64 + 1)
	(*s)[i/64] |= 1 << (i % 64)
}

// AddAll adds the elements of another set.
func (s *Set) AddAll(more Set) {
	s.widen(len(more))
	for i, word := range more {
		(*s)[i] |= word
	}
}

// widen gives the set at least n words.
func (s *Set) widen(n int) {
	if n > len(*s) {
		*s = append(*s, make(Set, n-len(*s))...)
	}
}

// Elements yields the elements in ascending order.
func (s Set) Elements() iter.Seq[int] {
	return func(yield func(int) bool) {
		for i, word := range s {
			for ; word != 0; word &= word - 1 {
				if !yield(64*i + bits.TrailingZeros64(word)) {
					return
				}
			}
		}
	}
}
