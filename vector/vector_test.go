package vector

import (
	"math"
	"math/big"
	"math/rand"
	"slices"
	"testing"

	"petrinet/api"
)

const least, greatest = math.MinInt64, math.MaxInt64

func vectorIs(t *testing.T, what string, got []int64, e api.Errno, want ...int64) {
	t.Helper()
	if e != api.OK || !slices.Equal(got, want) {
		t.Errorf("%s is %v %d, want %v", what, got, e, want)
	}
}

func vectorFails(t *testing.T, what string, got []int64, e, want api.Errno) {
	t.Helper()
	if e != want || len(got) != 0 {
		t.Errorf("%s is %v %d, want error %d", what, got, e, want)
	}
}

func TestAddSubScale(t *testing.T) {
	a, b := []int64{1, -2, greatest}, []int64{4, 5, 0}
	got, e := Add(a, b)
	vectorIs(t, "Add", got, e, 5, 3, greatest)
	got, e = Sub(a, b)
	vectorIs(t, "Sub", got, e, -3, -7, greatest)
	got, e = Scale([]int64{1, -2, 0}, -3)
	vectorIs(t, "Scale", got, e, -3, 6, 0)
	got, e = Scale([]int64{least, greatest}, 1)
	vectorIs(t, "Scale by 1", got, e, least, greatest)
	got, e = Scale([]int64{least, greatest}, 0)
	vectorIs(t, "Scale by 0", got, e, 0, 0)
	got, e = Sub([]int64{-1}, []int64{least})
	vectorIs(t, "Sub of the least number", got, e, greatest)
	got, e = Add(nil, []int64{})
	vectorIs(t, "Add of empty vectors", got, e)
	got, e = Sub(nil, nil)
	vectorIs(t, "Sub of empty vectors", got, e)
	got, e = Scale(nil, 5)
	vectorIs(t, "Scale of an empty vector", got, e)
}

func TestAddSubScaleErrors(t *testing.T) {
	got, e := Add([]int64{0, greatest}, []int64{0, 1})
	vectorFails(t, "Add", got, e, api.ErrOver)
	got, e = Add([]int64{least}, []int64{-1})
	vectorFails(t, "Add", got, e, api.ErrOver)
	got, e = Sub([]int64{0, 5}, []int64{0, least})
	vectorFails(t, "Sub", got, e, api.ErrOver)
	got, e = Scale([]int64{0, least}, -1)
	vectorFails(t, "Scale", got, e, api.ErrOver)
	got, e = Scale([]int64{1 << 62}, 2)
	vectorFails(t, "Scale", got, e, api.ErrOver)
	// The lengths are compared first.
	got, e = Add([]int64{greatest}, []int64{1, 1})
	vectorFails(t, "Add", got, e, api.ErrSize)
	got, e = Sub([]int64{0, 0}, []int64{least})
	vectorFails(t, "Sub", got, e, api.ErrSize)
	got, e = Sub(nil, []int64{0})
	vectorFails(t, "Sub", got, e, api.ErrSize)
}

func TestDot(t *testing.T) {
	for _, c := range []struct {
		a, b []int64
		want int64
		e    api.Errno
	}{
		{[]int64{1, 2, 3}, []int64{4, -5, 6}, 12, api.OK},
		{nil, nil, 0, api.OK},
		{[]int64{greatest, -1}, []int64{1, 1}, greatest - 1, api.OK},
		{[]int64{least}, []int64{1}, least, api.OK},
		{[]int64{least}, []int64{-1}, 0, api.ErrOver},
		{[]int64{1 << 32}, []int64{1 << 31}, 0, api.ErrOver},
		// A partial sum counts, also if later products would bring it back.
		{[]int64{greatest, 1, -5}, []int64{1, 1, 1}, 0, api.ErrOver},
		{[]int64{greatest, -5, 1}, []int64{1, 1, 1}, greatest - 4, api.OK},
		{[]int64{1}, nil, 0, api.ErrSize},
		{[]int64{least, 1}, []int64{-1}, 0, api.ErrSize},
	} {
		if got, e := Dot(c.a, c.b); got != c.want || e != c.e {
			t.Errorf("Dot of %v and %v is %d %d", c.a, c.b, got, e)
		}
	}
}

func TestLeqCompare(t *testing.T) {
	for _, c := range []struct {
		a, b    []int64
		leq     bool
		compare int
	}{
		{nil, nil, true, 0},
		{nil, []int64{}, true, 0},
		{nil, []int64{-1}, false, -1},
		{[]int64{1, 2}, []int64{1, 2}, true, 0},
		{[]int64{1, 2}, []int64{1, 3}, true, -1},
		{[]int64{1, 2}, []int64{2, 1}, false, -1},
		{[]int64{1, 2}, []int64{1, 2, 0}, false, -1},
		{[]int64{1, 3}, []int64{1, 2, 9}, false, 1},
		{[]int64{least}, []int64{greatest}, true, -1},
		{[]int64{0, 5}, []int64{1, 4}, false, -1},
	} {
		if Leq(c.a, c.b) != c.leq || Compare(c.a, c.b) != c.compare || Compare(c.b, c.a) != -c.compare {
			t.Errorf("%v and %v: %t %d %d", c.a, c.b, Leq(c.a, c.b), Compare(c.a, c.b), Compare(c.b, c.a))
		}
	}
	if Leq([]int64{2, 2}, []int64{1, 2}) || Leq([]int64{0}, nil) || Leq([]int64{0, 0}, []int64{1}) {
		t.Error("Leq of a greater or a longer vector")
	}
}

func TestPrim(t *testing.T) {
	for _, c := range [][2][]int64{
		{{4, -6, 0}, {2, -3, 0}},
		{{0, 0}, {0, 0}},
		{nil, nil},
		{{-7}, {-1}},
		{{greatest, -greatest}, {1, -1}},
		{{3, 5}, {3, 5}},
		{{0, 12, 18, -30}, {0, 2, 3, -5}},
	} {
		got, e := Prim(c[0])
		vectorIs(t, "Prim", got, e, c[1]...)
	}
	for _, a := range [][]int64{{least}, {least, least}, {1, least}, {least, 2}, {0, 0, least, 0}} {
		got, e := Prim(a)
		vectorFails(t, "Prim", got, e, api.ErrOver)
	}
}

func TestSupport(t *testing.T) {
	if got := Support([]int64{0, 3, 0, -1, least, 0}); !slices.Equal(got, []int{1, 3, 4}) {
		t.Error(got)
	}
	if len(Support(nil)) != 0 || len(Support([]int64{0, 0})) != 0 {
		t.Error("vectors without support")
	}
}

func TestCombine(t *testing.T) {
	got, e := Combine([]int64{1, 0}, 2, []int64{0, 1}, 3)
	vectorIs(t, "Combine", got, e, 2, 3)
	got, e = Combine([]int64{5, -4}, -2, []int64{7, 1}, 3)
	vectorIs(t, "Combine", got, e, 11, 11)
	got, e = Combine([]int64{greatest}, 1, []int64{least}, 1)
	vectorIs(t, "Combine", got, e, -1)
	got, e = Combine(nil, greatest, nil, least)
	vectorIs(t, "Combine of empty vectors", got, e)
	got, e = Combine([]int64{1}, 1, nil, 1)
	vectorFails(t, "Combine", got, e, api.ErrSize)
	got, e = Combine([]int64{least, 1}, -1, []int64{0}, 0)
	vectorFails(t, "Combine", got, e, api.ErrSize)
	got, e = Combine([]int64{0, greatest}, 1, []int64{0, 1}, 1)
	vectorFails(t, "a sum", got, e, api.ErrOver)
	// A product that is no int64 counts, also if the sum is one.
	got, e = Combine([]int64{1 << 62}, 2, []int64{-1}, 1)
	vectorFails(t, "the first product", got, e, api.ErrOver)
	got, e = Combine([]int64{-1}, 1, []int64{least}, -1)
	vectorFails(t, "the second product", got, e, api.ErrOver)
}

func TestArgumentsAreKeptAndResultsNew(t *testing.T) {
	a, b := []int64{2, 4}, []int64{6, 8}
	results := [][]int64{}
	for _, call := range []func() ([]int64, api.Errno){
		func() ([]int64, api.Errno) { return Add(a, b) },
		func() ([]int64, api.Errno) { return Sub(a, b) },
		func() ([]int64, api.Errno) { return Scale(a, 1) },
		func() ([]int64, api.Errno) { return Prim(a) },
		func() ([]int64, api.Errno) { return Combine(a, 1, b, 0) },
	} {
		r, _ := call()
		results = append(results, r)
	}
	zero := []int64{0, 0}
	r, _ := Prim(zero)
	results = append(results, r)
	for _, r := range results {
		clear(r)
		r[0] = 99
	}
	if !slices.Equal(a, []int64{2, 4}) || !slices.Equal(b, []int64{6, 8}) || !slices.Equal(zero, []int64{0, 0}) {
		t.Error("arguments changed", a, b, zero)
	}
}

func TestLaws(t *testing.T) {
	source := rand.New(rand.NewSource(5))
	random := func(n int) []int64 {
		v := make([]int64, n)
		for i := range v {
			v[i] = source.Int63n(41) - 20
		}
		return v
	}
	for range 2000 {
		n := source.Intn(6)
		a, b, c := random(n), random(n), random(n)
		i, k := source.Int63n(19)-9, source.Int63n(19)-9
		combined, _ := Combine(a, i, b, k)
		x, _ := Dot(a, c)
		y, _ := Dot(b, c)
		if z, e := Dot(combined, c); z != i*x+k*y || e != api.OK {
			t.Fatalf("Dot is not linear for %v %d %v %d %v", a, i, b, k, c)
		}
		primitive, e := Prim(a)
		divisor := new(big.Int)
		for _, x := range primitive {
			divisor.GCD(nil, nil, divisor, new(big.Int).Abs(big.NewInt(x)))
		}
		if e != api.OK || divisor.Int64() > 1 || !slices.Equal(Support(primitive), Support(a)) {
			t.Fatalf("Prim of %v is %v", a, primitive)
		}
	}
}
