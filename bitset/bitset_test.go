package bitset

import (
	"math"
	"slices"
	"testing"
)

const whole = ^uint64(0)

func TestOfAndList(t *testing.T) {
	if Of(0, 3) != 9 || Of() != 0 || Of(3, 0, 3) != 9 || Of(-1, 64, 63, math.MinInt, math.MaxInt) != 1<<63 {
		t.Error("Of")
	}
	if l := List(9); !slices.Equal(l, []int{0, 3}) {
		t.Error("List(9)", l)
	}
	if len(List(0)) != 0 || len(List(whole)) != 64 {
		t.Error("List of the empty and the whole set")
	}
	for _, s := range []uint64{0, 1, 9, 1 << 63, 0xdeadbeef12345678, whole} {
		if l := List(s); Of(l...) != s || !slices.IsSorted(l) || len(l) != Len(s) {
			t.Error("Of of List", s, l)
		}
	}
}

func TestHasWithWithout(t *testing.T) {
	for _, s := range []uint64{0, 9, 1 << 63, whole} {
		for _, i := range []int{math.MinInt, -64, -1, 64, 65, 128, math.MaxInt} {
			if Has(s, i) || With(s, i) != s || Without(s, i) != s {
				t.Error("numbers that are not from 0 to 63", s, i)
			}
		}
		for i := range 64 {
			if Has(s, i) != slices.Contains(List(s), i) || !Has(With(s, i), i) || Has(Without(s, i), i) {
				t.Error("Has, With and Without", s, i)
			}
			if Without(With(s, i), i) != Without(s, i) || With(Without(s, i), i) != With(s, i) {
				t.Error("With and Without change other elements", s, i)
			}
		}
	}
}

func TestLenLeastSubset(t *testing.T) {
	if Len(0) != 0 || Len(7) != 3 || Len(whole) != 64 {
		t.Error("Len")
	}
	if Least(0) != -1 || Least(12) != 2 || Least(1<<63) != 63 || Least(whole) != 0 {
		t.Error("Least")
	}
	for a := range uint64(16) {
		for b := range uint64(16) {
			if Subset(a, b) != (a|b == b) {
				t.Error("Subset", a, b)
			}
		}
	}
}

func TestAll(t *testing.T) {
	for n := range 65 {
		if s := All(n); Len(s) != n || n > 0 && !Has(s, n-1) {
			t.Error("All", n, s)
		}
	}
	if All(-1) != 0 || All(math.MinInt) != 0 || All(65) != whole || All(math.MaxInt) != whole {
		t.Error("All of numbers that are not from 0 to 64")
	}
}

func TestNext(t *testing.T) {
	if s, ok := Next(1, 5); s != 4 || !ok {
		t.Error("Next(1, 5)", s, ok)
	}
	for _, x := range [][2]uint64{{0, 0}, {5, 5}, {2, 5}, {7, 5}, {whole, whole}, {whole, 1 << 63}} {
		if s, ok := Next(x[0], x[1]); s != 0 || ok {
			t.Error("Next", x, s, ok)
		}
	}
	if s, ok := Next(whole-1, whole); s != whole || !ok {
		t.Error("Next before the whole set", s, ok)
	}
	if s, ok := Next(1, 1<<63|1); s != 1<<63 || !ok {
		t.Error("Next over a gap", s, ok)
	}
}

func TestNextVisitsEverySubsetOnce(t *testing.T) {
	for _, of := range []uint64{0, 1, 5, 0x8000000000000421, 0xff00} {
		visited := 0
		for s, ok := uint64(0), true; ok; visited++ {
			last := s
			if s, ok = Next(s, of); ok && (s <= last || !Subset(s, of)) {
				t.Fatal("Next", last, of, s)
			}
		}
		if visited != 1<<Len(of) {
			t.Error("subsets of", of, visited)
		}
	}
}

func TestMinimal(t *testing.T) {
	for _, x := range []struct{ l, want []uint64 }{
		{nil, nil}, {[]uint64{3, 1, 6}, []uint64{1, 6}}, {[]uint64{12, 3, 3, 8}, []uint64{8, 3}}, {[]uint64{0, 5}, []uint64{0}},
		{[]uint64{7, 6, 5, 3}, []uint64{3, 5, 6}}, {[]uint64{1 << 63, 3, whole}, []uint64{1 << 63, 3}}, {[]uint64{4, 4}, []uint64{4}},
	} {
		given := slices.Clone(x.l)
		if l := Minimal(given); !slices.Equal(l, x.want) {
			t.Error("Minimal", x.l, l)
		}
		if !slices.Equal(given, x.l) {
			t.Error("Minimal changes its argument", x.l, given)
		}
	}
}

func TestEverySetHasAMinimalSubset(t *testing.T) {
	// Each list holds the sets of three elements that are the bits of its number.
	for chosen := range uint64(256) {
		var l []uint64
		for _, s := range List(chosen) {
			l = append(l, uint64(s))
		}
		minimal := Minimal(l)
		for _, s := range l {
			smaller := slices.ContainsFunc(l, func(x uint64) bool { return x != s && Subset(x, s) })
			if slices.Contains(minimal, s) == smaller {
				t.Error("minimal sets of", l, minimal, s)
			}
			if !slices.ContainsFunc(minimal, func(x uint64) bool { return Subset(x, s) }) {
				t.Error("a set without a minimal subset", l, s)
			}
		}
	}
}
