// Package random is layer 52: seeded random numbers. See shared/doc/52-random.md.
package random

import (
	"slices"

	"petrinet/api"
)

const (
	factor    = 6364136223846793005
	increment = 1442695040888963407
	greatest  = 1<<31 - 1 // the greatest output
	mostSteps = 1 << 20
	heaviest  = 1000 // the greatest weight
)

func step(state uint64) uint64 {
	return state*factor + increment
}

// Next performs a step and returns the output of the new state, and the new state.
func Next(seed uint64) (uint64, uint64) {
	state := step(seed)
	return (state>>33 ^ state>>15) & greatest, state
}

// Below returns the output of Next modulo n, and the new state; -1 and the seed if n is not from 1 to 2^31 - 1.
func Below(seed uint64, n int) (int, uint64) {
	if n < 1 || n > greatest {
		return -1, seed
	}
	output, state := Next(seed)
	return int(output % uint64(n)), state
}

// Choose returns an index, chosen by its weight, and the new state; -1 and the seed if the weights are not valid.
func Choose(seed uint64, weights []int) (int, uint64) {
	left, state := Below(seed, total(weights))
	if left < 0 {
		return -1, seed
	}
	for i, w := range weights {
		if left < w {
			return i, state
		}
		left -= w
	}
	return -1, seed
}

// total returns the sum of the weights; 0 if they are not valid.
func total(weights []int) int {
	if len(weights) > api.MaxVecs {
		return 0
	}
	sum := 0
	for _, w := range weights {
		if w < 0 || w > heaviest {
			return 0
		}
		sum += w
	}
	return sum
}

// Shuffle returns a permutation of 0 to n - 1, and the last state; an empty slice and the seed if n is not from 1 to MaxVecs.
func Shuffle(seed uint64, n int) ([]int, uint64) {
	if n < 1 || n > api.MaxVecs {
		return nil, seed
	}
	var elements [api.MaxVecs]int
	for i := range n {
		elements[i] = i
	}
	state := seed
	for i := n - 1; i >= 1; i-- {
		var j int
		j, state = Below(state, i+1)
		elements[i], elements[j] = elements[j], elements[i]
	}
	return slices.Clone(elements[:n]), state
}

// Steps returns the state after k steps, of which at most 2^20 are performed.
func Steps(seed uint64, k int) uint64 {
	state := seed
	for range min(k, mostSteps) {
		state = step(state)
	}
	return state
}
