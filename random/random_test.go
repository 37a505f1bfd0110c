package random

import (
	"math"
	"slices"
	"testing"

	"petrinet/api"
)

const first = 1442695040888963407

var seeds = []uint64{0, 1, 2, 3, 7, 12345, 1 << 31, 1 << 63, math.MaxUint64, first}

func TestNext(t *testing.T) {
	if x, s := Next(0); x != 2097107824 || s != first {
		t.Error("Next(0)", x, s)
	}
	for _, seed := range seeds {
		want := seed*6364136223846793005 + first
		x, s := Next(seed)
		if s != want || x != (want>>33^want>>15)%(1<<31) {
			t.Error("Next", seed, x, s)
		}
	}
}

func TestSteps(t *testing.T) {
	for _, seed := range seeds {
		for _, k := range []int{0, -1, math.MinInt} {
			if Steps(seed, k) != seed {
				t.Error("Steps without a step", seed, k)
			}
		}
		state := seed
		for k := range 20 {
			if Steps(seed, k) != state {
				t.Error("Steps", seed, k)
			}
			if Steps(Steps(seed, k), 5) != Steps(seed, k+5) {
				t.Error("Steps composes", seed, k)
			}
			_, state = Next(state)
		}
	}
	most := Steps(3, 1<<20)
	if Steps(3, 1<<20-1) == most || Steps(3, 1<<20+1) != most || Steps(3, math.MaxInt) != most {
		t.Error("at most 2^20 steps")
	}
	if _, s := Next(Steps(3, 1<<20-1)); s != most {
		t.Error("2^20 steps")
	}
}

func TestBelow(t *testing.T) {
	if x, s := Below(0, 10); x != 4 || s != first {
		t.Error("Below(0, 10)", x, s)
	}
	for _, seed := range seeds {
		output, state := Next(seed)
		for _, n := range []int{1, 2, 3, 1000, 1<<31 - 1} {
			if x, s := Below(seed, n); x != int(output)%n || s != state {
				t.Error("Below", seed, n, x, s)
			}
		}
		for _, n := range []int{0, -1, math.MinInt, 1 << 31, math.MaxInt} {
			if x, s := Below(seed, n); x != -1 || s != seed {
				t.Error("Below", seed, n, x, s)
			}
		}
	}
}

func TestChoose(t *testing.T) {
	lists := [][]int{{1}, {0, 5}, {5, 0}, {0, 1, 7}, {3, 0, 0, 2, 0, 1000, 0}, slices.Repeat([]int{1000}, api.MaxVecs)}
	for _, weights := range lists {
		sum := 0
		for _, w := range weights {
			sum += w
		}
		for seed := range uint64(50) {
			output, state := Next(seed)
			i, s := Choose(seed, weights)
			rest := int(output) % sum
			for _, w := range weights[:max(i, 0)] {
				rest -= w
			}
			if i < 0 || rest < 0 || rest >= weights[i] || s != state {
				t.Error("Choose", seed, weights, i, s)
			}
		}
	}
}

func TestChooseWithoutChoice(t *testing.T) {
	for _, weights := range [][]int{nil, {0}, {0, 0, 0}, {1, -1}, {1, 1001}, {-1, 2}, {math.MaxInt, math.MaxInt}, {math.MinInt}, slices.Repeat([]int{1}, api.MaxVecs+1)} {
		for _, seed := range seeds {
			if i, s := Choose(seed, weights); i != -1 || s != seed {
				t.Error("Choose", seed, weights, i, s)
			}
		}
	}
	if i, s := Choose(0, slices.Repeat([]int{1000}, api.MaxVecs)); i < 0 || s != first {
		t.Error("Choose with the greatest weights", i, s)
	}
}

func TestShuffle(t *testing.T) {
	for _, seed := range seeds {
		for n := 1; n <= api.MaxVecs; n++ {
			want := make([]int, n)
			for i := range want {
				want[i] = i
			}
			state := seed
			for i := n - 1; i > 0; i-- {
				j, next := Below(state, i+1)
				want[i], want[j] = want[j], want[i]
				state = next
			}
			if l, s := Shuffle(seed, n); !slices.Equal(l, want) || s != state {
				t.Error("Shuffle", seed, n, l, s)
			}
		}
		for _, n := range []int{0, -1, math.MinInt, api.MaxVecs + 1, math.MaxInt} {
			if l, s := Shuffle(seed, n); len(l) != 0 || s != seed {
				t.Error("Shuffle", seed, n, l, s)
			}
		}
	}
	if l, s := Shuffle(7, 1); !slices.Equal(l, []int{0}) || s != 7 {
		t.Error("Shuffle of one element", l, s)
	}
	if l, s := Shuffle(0, 2); !slices.Equal(l, []int{1, 0}) || s != first {
		t.Error("Shuffle(0, 2)", l, s)
	}
}
