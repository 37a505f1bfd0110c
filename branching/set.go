package branching

import (
	"iter"
	"math/bits"
)

// set is a set of natural numbers, one bit for each.
type set []uint64

func (s set) has(i int) bool {
	return i/64 < len(s) && s[i/64]&(1<<(i%64)) != 0
}

func (s *set) add(i int) {
	s.widen(i/64 + 1)
	(*s)[i/64] |= 1 << (i % 64)
}

func (s *set) addAll(more set) {
	s.widen(len(more))
	for i, word := range more {
		(*s)[i] |= word
	}
}

// widen gives the set at least n words.
func (s *set) widen(n int) {
	if n > len(*s) {
		*s = append(*s, make(set, n-len(*s))...)
	}
}

// elements yields the elements in ascending order.
func (s set) elements() iter.Seq[int] {
	return func(yield func(int) bool) {
		for i, word := range s {
			for ; word != 0; word &= word - 1 {
				if !yield(64*i + bits.TrailingZeros64(word)) {
					return
				}
			}
		}
	}
}
