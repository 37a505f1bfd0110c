package natural

import (
	"math"
	"math/rand"
	"slices"
	"testing"

	"petrinet/api"
)

func same(a, b [][]int64) bool {
	return slices.EqualFunc(a, b, slices.Equal[[]int64])
}

// filled returns n times x.
func filled(n int, x int64) []int64 {
	return slices.Repeat([]int64{x}, n)
}

func TestCheck(t *testing.T) {
	for i, c := range []struct {
		a        [][]int64
		b, upper []int64
		e        api.Errno
	}{
		{nil, nil, []int64{1}, api.OK},
		{[][]int64{{1, 1}}, []int64{2}, []int64{2, 2}, api.OK},
		{nil, nil, nil, api.ErrSize},
		{nil, nil, filled(64, 0), api.OK},
		{nil, nil, filled(65, 0), api.ErrSize},
		{[][]int64{{1}}, nil, []int64{1}, api.ErrSize},
		{nil, []int64{1}, []int64{1}, api.ErrSize},
		{slices.Repeat([][]int64{{1}}, 64), filled(64, 1), []int64{1}, api.OK},
		{slices.Repeat([][]int64{{1}}, 65), filled(65, 1), []int64{1}, api.ErrSize},
		{[][]int64{{1}, {}}, filled(2, 1), []int64{1}, api.ErrSize},
		{[][]int64{{99999}, {1, 2}}, filled(2, 99999), []int64{-1}, api.ErrSize},
		{[][]int64{{10000, -10000}}, []int64{-10000}, []int64{0, 1000}, api.OK},
		{[][]int64{{10001, 1}}, []int64{1}, []int64{1, 1}, api.ErrRange},
		{[][]int64{{1, -10001}}, []int64{1}, []int64{1000, 1000}, api.ErrRange},
		{[][]int64{{1, math.MinInt64}}, []int64{1}, []int64{1, 1}, api.ErrRange},
		{[][]int64{{1, 1}}, []int64{10001}, []int64{1, 1}, api.ErrRange},
		{[][]int64{{1, 1}}, []int64{-10001}, []int64{1, 1}, api.ErrRange},
		{nil, nil, []int64{1000, 1000, 1001}, api.ErrRange},
		{nil, nil, []int64{1, -1}, api.ErrRange},
		{nil, nil, []int64{math.MaxInt64, math.MaxInt64}, api.ErrRange},
		{nil, nil, []int64{99, 999}, api.OK},
		{nil, nil, []int64{99, 999, 1}, api.ErrLimit},
		{nil, nil, []int64{100, 999}, api.ErrLimit},
		{nil, nil, filled(64, 1000), api.ErrLimit},
		{nil, nil, filled(16, 1), api.OK},
		{nil, nil, filled(17, 1), api.ErrLimit},
	} {
		if e := Check(c.a, c.b, c.upper); e != c.e {
			t.Errorf("case %d: %d, want %d", i, e, c.e)
		}
		x, ok, e := Solve(c.a, c.b, c.upper)
		if e != c.e || e != api.OK && (len(x) != 0 || ok) {
			t.Errorf("case %d: Solve %v %t %d", i, x, ok, e)
		}
		if n, e := Count(c.a, c.b, c.upper); e != c.e || e != api.OK && n != 0 {
			t.Errorf("case %d: Count %d %d", i, n, e)
		}
		for _, limit := range []int{0, -1, 1001, math.MaxInt, math.MinInt} {
			want := c.e
			if want == api.OK {
				want = api.ErrRange
			}
			if l, e := All(c.a, c.b, c.upper, limit); e != want || len(l) != 0 {
				t.Errorf("case %d: All %v %d", i, l, e)
			}
		}
	}
}

func TestExamples(t *testing.T) {
	a, b, upper := [][]int64{{1, 1}}, []int64{2}, []int64{2, 2}
	if x, ok, e := Solve(a, b, upper); !slices.Equal(x, []int64{0, 2}) || !ok || e != api.OK {
		t.Error(x, ok, e)
	}
	if n, e := Count(a, b, upper); n != 3 || e != api.OK {
		t.Error(n, e)
	}
	if l, e := All(a, b, upper, 1000); !same(l, [][]int64{{0, 2}, {1, 1}, {2, 0}}) || e != api.OK {
		t.Error(l, e)
	}
	if l, e := All(a, b, upper, 2); !same(l, [][]int64{{0, 2}, {1, 1}}) || e != api.OK {
		t.Error(l, e)
	}
	if x, ok, e := Solve([][]int64{{2}}, []int64{3}, []int64{1000}); len(x) != 0 || ok || e != api.OK {
		t.Error(x, ok, e)
	}
	if x, ok, e := Solve([][]int64{{2}}, []int64{6}, []int64{2}); len(x) != 0 || ok || e != api.OK {
		t.Error("a solution above the bound", x, ok, e)
	}
	if x, ok, e := Solve([][]int64{{1}}, []int64{-1}, []int64{2}); len(x) != 0 || ok || e != api.OK {
		t.Error("a negative solution", x, ok, e)
	}
	if n, e := Count(nil, nil, []int64{99, 999}); n != 100000 || e != api.OK {
		t.Error("no rows", n, e)
	}
	if !slices.Equal(upper, []int64{2, 2}) || b[0] != 2 {
		t.Error("an argument was changed")
	}
}

// every lists all solutions in lexicographic order.
func every(a [][]int64, b, upper []int64) [][]int64 {
	vectors := [][]int64{nil}
	for _, u := range upper {
		var longer [][]int64
		for _, x := range vectors {
			for value := range u + 1 {
				longer = append(longer, append(slices.Clone(x), value))
			}
		}
		vectors = longer
	}
	return slices.DeleteFunc(vectors, func(x []int64) bool {
		for i, row := range a {
			sum := int64(0)
			for k := range x {
				sum += row[k] * x[k]
			}
			if sum != b[i] {
				return true
			}
		}
		return false
	})
}

func TestRandomSystems(t *testing.T) {
	r := rand.New(rand.NewSource(35))
	solvable := 0
	for range 500 {
		upper := make([]int64, 1+r.Intn(5))
		for i := range upper {
			upper[i] = r.Int63n(5)
		}
		a, b := make([][]int64, r.Intn(3)), []int64(nil)
		for i := range a {
			for range upper {
				a[i] = append(a[i], r.Int63n(7)-3)
			}
			b = append(b, r.Int63n(9)-3)
		}
		want := every(a, b, upper)
		if len(want) > 0 {
			solvable++
		}
		limit := 1 + r.Intn(20)
		if l, e := All(a, b, upper, limit); !same(l, want[:min(limit, len(want))]) || e != api.OK {
			t.Fatal("All", a, b, upper, l, e)
		}
		if n, e := Count(a, b, upper); n != len(want) || e != api.OK {
			t.Fatal("Count", a, b, upper, n, e)
		}
		x, ok, e := Solve(a, b, upper)
		if ok != (len(want) > 0) || ok && !slices.Equal(x, want[0]) || !ok && len(x) != 0 || e != api.OK {
			t.Fatal("Solve", a, b, upper, x, ok, e)
		}
	}
	if solvable < 200 || solvable > 450 {
		t.Error("solvable systems", solvable)
	}
}

func TestManyVariables(t *testing.T) {
	// 16 variables that may be 0 or 1, and 48 that are 0, with as many rows as possible.
	upper := append(filled(16, 1), filled(48, 0)...)
	a := slices.Repeat([][]int64{filled(64, 10000)}, 64)
	if n, e := Count(a, filled(64, 10000), upper); n != 16 || e != api.OK {
		t.Error(n, e)
	}
}

func TestSolutionsShareNoMemory(t *testing.T) {
	l, _ := All(nil, nil, []int64{1, 1}, 10)
	l[0][0] = 7
	if !same(l, [][]int64{{7, 0}, {0, 1}, {1, 0}, {1, 1}}) {
		t.Error(l)
	}
}
