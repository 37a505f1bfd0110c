package matrix

import (
	"math"
	"math/big"
	"math/rand"
	"slices"
	"testing"

	"petrinet/api"
	"petrinet/vector"
)

func same(a, b [][]int64) bool {
	return slices.EqualFunc(a, b, slices.Equal[[]int64])
}

// filled returns a matrix with the given size and elements of the same value.
func filled(rows, columns int, x int64) [][]int64 {
	a := make([][]int64, rows)
	for i := range a {
		a[i] = slices.Repeat([]int64{x}, columns)
	}
	return a
}

// random returns a matrix with elements from -size to size.
func random(r *rand.Rand, rows, columns int, size int64) [][]int64 {
	a := filled(rows, columns, 0)
	for i := range a {
		for k := range a[i] {
			a[i][k] = r.Int63n(2*size+1) - size
		}
	}
	return a
}

var invalid = [][][]int64{nil, {}, {{}}, {{}, {}}, {{1, 2}, {1}}, {{1}, {1, 2}}, {nil, {1}}, filled(65, 1, 0), filled(1, 65, 0)}

func TestValidTranspose(t *testing.T) {
	for _, a := range invalid {
		if Valid(a) || len(Transpose(a)) != 0 {
			t.Error("valid:", a)
		}
	}
	for _, a := range [][][]int64{{{0}}, {{1, 2, 3}}, filled(64, 64, math.MinInt64), filled(64, 1, 1), filled(1, 64, 1)} {
		if !Valid(a) || !same(Transpose(Transpose(a)), a) {
			t.Error("not valid:", a)
		}
	}
	a := [][]int64{{1, 2, 3}, {4, 5, 6}}
	b := Transpose(a)
	if !same(b, [][]int64{{1, 4}, {2, 5}, {3, 6}}) {
		t.Error(b)
	}
	b[0][0] = 9
	if a[0][0] != 1 {
		t.Error("the result shares memory with the argument")
	}
}

func TestMulApply(t *testing.T) {
	if c, e := Mul([][]int64{{1, 2}, {3, 4}, {0, -1}}, [][]int64{{1, 0, 2}, {5, 1, 1}}); e != api.OK || !same(c, [][]int64{{11, 2, 4}, {23, 4, 10}, {-5, -1, -1}}) {
		t.Error("Mul", c, e)
	}
	if x, e := Apply([][]int64{{1, 2}, {3, 4}, {0, -1}}, []int64{5, -1}); e != api.OK || !slices.Equal(x, []int64{3, 11, 1}) {
		t.Error("Apply", x, e)
	}
	one := [][]int64{{1}}
	for _, a := range invalid {
		if c, e := Mul(a, one); len(c) != 0 || e != api.ErrSize {
			t.Error("Mul", a, e)
		}
		if c, e := Mul(one, a); len(c) != 0 || e != api.ErrSize {
			t.Error("Mul", a, e)
		}
		if x, e := Apply(a, []int64{1}); len(x) != 0 || e != api.ErrSize {
			t.Error("Apply", a, e)
		}
	}
	if _, e := Mul([][]int64{{1, 2}}, [][]int64{{1, 2}}); e != api.ErrSize {
		t.Error("Mul", e)
	}
	for _, x := range [][]int64{nil, {1}, {1, 2, 3}} {
		if y, e := Apply([][]int64{{1, 2}}, x); len(y) != 0 || e != api.ErrSize {
			t.Error("Apply", x, e)
		}
	}
}

func TestMulApplyOver(t *testing.T) {
	for _, c := range []struct {
		row, x []int64
		e      api.Errno
	}{
		{[]int64{1 << 62, 1}, []int64{2, 0}, api.ErrOver},
		{[]int64{math.MinInt64, 1}, []int64{1, 0}, api.OK},
		{[]int64{math.MinInt64, 1}, []int64{-1, 0}, api.ErrOver},
		{[]int64{math.MaxInt64, 1, -5}, []int64{1, 1, 1}, api.ErrOver},
		{[]int64{math.MaxInt64, -5, 1}, []int64{1, 1, 1}, api.OK},
		{[]int64{1 << 62, 1 << 62, -1}, []int64{1, 1, 1 << 62}, api.ErrOver},
		{[]int64{1 << 62, -1, 1 << 62}, []int64{1, 1 << 62, 1}, api.OK},
	} {
		if y, e := Apply([][]int64{c.row}, c.x); e != c.e || (e != api.OK) != (len(y) == 0) {
			t.Error("Apply", c.row, c.x, y, e)
		}
		if y, e := Mul([][]int64{slices.Repeat([]int64{0}, len(c.x)), c.row}, Transpose([][]int64{c.x})); e != c.e || (e != api.OK) != (len(y) == 0) {
			t.Error("Mul", c.row, c.x, y, e)
		}
	}
}

// exact returns the reduced echelon form, computed with rational numbers of any size, and its pivots.
func exact(a [][]int64) ([][]*big.Int, []int) {
	var rows [][]*big.Rat
	for _, row := range a {
		var l []*big.Rat
		for _, x := range row {
			l = append(l, big.NewRat(x, 1))
		}
		rows = append(rows, l)
	}
	var pivots []int
	for column := range a[0] {
		r := len(pivots)
		i := r + slices.IndexFunc(rows[r:], func(row []*big.Rat) bool { return row[column].Sign() != 0 })
		if i < r {
			continue
		}
		rows[r], rows[i] = rows[i], rows[r]
		pivot := new(big.Rat).Set(rows[r][column])
		for k := range rows[r] {
			rows[r][k].Quo(rows[r][k], pivot)
		}
		for i := range rows {
			factor := new(big.Rat).Set(rows[i][column])
			for k := range rows[i] {
				if i != r {
					rows[i][k].Sub(rows[i][k], new(big.Rat).Mul(factor, rows[r][k]))
				}
			}
		}
		pivots = append(pivots, column)
	}
	var form [][]*big.Int
	for _, row := range rows[:len(pivots)] {
		form = append(form, integral(row))
	}
	return form, pivots
}

// integral returns the primitive integer vector that is a positive multiple of the row.
func integral(row []*big.Rat) []*big.Int {
	common := big.NewInt(1)
	for _, x := range row {
		g := new(big.Int).GCD(nil, nil, common, x.Denom())
		common.Mul(common, new(big.Int).Quo(x.Denom(), g))
	}
	divisor := new(big.Int)
	var l []*big.Int
	for _, x := range row {
		y := new(big.Rat).Mul(x, new(big.Rat).SetInt(common))
		l = append(l, new(big.Int).Set(y.Num()))
		divisor.GCD(nil, nil, divisor, new(big.Int).Abs(y.Num()))
	}
	for i := range l {
		l[i].Quo(l[i], divisor)
	}
	return l
}

func equalRows(form [][]*big.Int, rows [][]int64) bool {
	return slices.EqualFunc(form, rows, func(x []*big.Int, y []int64) bool {
		return slices.EqualFunc(x, y, func(p *big.Int, q int64) bool { return p.IsInt64() && p.Int64() == q })
	})
}

// checkForms compares Echelon, Rank and Kernel of a with exact results, and reports whether one of them returned ErrOver.
func checkForms(t *testing.T, a [][]int64) bool {
	t.Helper()
	form, pivots := exact(a)
	rows, e := Echelon(a)
	rank, f := Rank(a)
	basis, g := Kernel(a)
	if e == api.ErrOver || f == api.ErrOver || g == api.ErrOver {
		if e != api.OK && len(rows) != 0 || f != api.OK && rank != 0 || g != api.OK && len(basis) != 0 || e != f {
			t.Error("results with an error", a)
		}
		return true
	}
	if e != api.OK || f != api.OK || g != api.OK || rank != len(pivots) || !equalRows(form, rows) {
		t.Errorf("%v: Echelon %v %d, Rank %d %d", a, rows, e, rank, f)
	}
	var free []int
	for column := range a[0] {
		if !slices.Contains(pivots, column) {
			free = append(free, column)
		}
	}
	if len(basis) != len(free) || rank+len(basis) != len(a[0]) {
		t.Fatalf("%v: Kernel %v", a, basis)
	}
	for i, x := range basis {
		if !mapsToZero(a, x) || x[free[i]] <= 0 {
			t.Errorf("%v: Kernel %v", a, basis)
		}
		for _, column := range free {
			if column != free[i] && x[column] != 0 {
				t.Errorf("%v: Kernel %v is not 0 in column %d", a, basis, column)
			}
		}
		if p, _ := vector.Prim(x); !slices.Equal(p, x) {
			t.Errorf("%v: Kernel %v is not primitive", a, basis)
		}
	}
	return false
}

// mapsToZero computes with integers of any size: Apply may return ErrOver.
func mapsToZero(a [][]int64, x []int64) bool {
	return !slices.ContainsFunc(a, func(row []int64) bool {
		sum := new(big.Int)
		for i := range row {
			sum.Add(sum, new(big.Int).Mul(big.NewInt(row[i]), big.NewInt(x[i])))
		}
		return sum.Sign() != 0
	})
}

func TestEchelonKernel(t *testing.T) {
	for _, c := range []struct{ a, form, kernel [][]int64 }{
		{[][]int64{{2, 4}, {1, 3}}, [][]int64{{1, 0}, {0, 1}}, nil},
		{[][]int64{{1, -1, 0}}, [][]int64{{1, -1, 0}}, [][]int64{{1, 1, 0}, {0, 0, 1}}},
		{[][]int64{{0, 0}, {0, 0}}, nil, [][]int64{{1, 0}, {0, 1}}},
		{[][]int64{{0, -2, 4, 3}}, [][]int64{{0, 2, -4, -3}}, [][]int64{{1, 0, 0, 0}, {0, 2, 1, 0}, {0, 3, 0, 2}}},
		{[][]int64{{2, 0, 3}, {0, 3, 5}}, [][]int64{{2, 0, 3}, {0, 3, 5}}, [][]int64{{-9, -10, 6}}},
		{[][]int64{{-7}}, [][]int64{{1}}, nil},
		{[][]int64{{1}, {2}, {3}}, [][]int64{{1}}, nil},
		{[][]int64{{1, 2, 3}, {4, 5, 6}, {7, 8, 9}}, [][]int64{{1, 0, -1}, {0, 1, 2}}, [][]int64{{1, -2, 1}}},
	} {
		form, e := Echelon(c.a)
		kernel, f := Kernel(c.a)
		if e != api.OK || f != api.OK || !same(form, c.form) || !same(kernel, c.kernel) {
			t.Errorf("%v: Echelon %v, Kernel %v", c.a, form, kernel)
		}
	}
	for _, a := range invalid {
		form, e := Echelon(a)
		rank, f := Rank(a)
		kernel, g := Kernel(a)
		if len(form) != 0 || rank != 0 || len(kernel) != 0 || e != api.ErrSize || f != api.ErrSize || g != api.ErrSize {
			t.Error("errors of", a, e, f, g)
		}
	}
}

func TestSmallMatrices(t *testing.T) {
	r := rand.New(rand.NewSource(8))
	var hard [][][]int64
	for range 3000 {
		hard = append(hard, random(r, 1+r.Intn(8), 1+r.Intn(8), 1+r.Int63n(3)))
	}
	for range 2000 {
		a := random(r, 8, 8, 1)
		for i := range a {
			for k := range a[i] {
				// Such elements have the greatest determinants.
				a[i][k] = 3 - 6*r.Int63n(2)
			}
		}
		hard = append(hard, a, a[:7])
	}
	for _, a := range hard {
		if checkForms(t, a) {
			t.Error("ErrOver for a small matrix", a)
		}
	}
}

func TestLargeMatrices(t *testing.T) {
	r := rand.New(rand.NewSource(9))
	fine := 0
	for _, size := range []int64{1, 5, 99, 1 << 31, 1 << 61} {
		for range 60 {
			if !checkForms(t, random(r, 1+r.Intn(12), 1+r.Intn(12), size)) {
				fine++
			}
		}
	}
	checkForms(t, filled(64, 64, 1))
	checkForms(t, filled(3, 3, math.MinInt64))
	checkForms(t, filled(2, 64, math.MaxInt64))
	checkForms(t, [][]int64{{math.MaxInt64, 1}, {1, math.MaxInt64}})
	if fine < 50 {
		t.Error("too many results are ErrOver", fine)
	}
}

func TestKernelOver(t *testing.T) {
	const p, q, r = 1<<31 - 1, 1<<31 + 11, 1<<31 + 45
	for _, a := range [][][]int64{
		// The least common multiple of the pivots is not an int64.
		{{p, 0, 0, 1}, {0, q, 0, 1}, {0, 0, r, 1}},
		// A multiple of an element is not an int64.
		{{3, 0, 1 << 62}, {0, 5, 1}},
	} {
		rows, e := Echelon(a)
		rank, f := Rank(a)
		basis, g := Kernel(a)
		if !same(rows, a) || rank != len(a) || e != api.OK || f != api.OK || len(basis) != 0 || g != api.ErrOver {
			t.Error(a, rows, rank, basis, e, f, g)
		}
	}
}

func TestFormProperties(t *testing.T) {
	r := rand.New(rand.NewSource(10))
	for range 500 {
		a := random(r, 1+r.Intn(6), 1+r.Intn(6), 3)
		before := [][]int64{}
		for _, row := range a {
			before = append(before, slices.Clone(row))
		}
		form, _ := Echelon(a)
		rank, _ := Rank(a)
		transposed, e := Rank(Transpose(a))
		if e != api.OK || rank != transposed || !same(a, before) {
			t.Fatal("rank of the transposed matrix", a, rank, transposed)
		}
		if again, e := Echelon(form); len(form) > 0 && (e != api.OK || !same(again, form)) {
			t.Fatal("Echelon of Echelon", a, form, again)
		}
		for _, row := range form {
			clear(row)
		}
		if !same(a, before) {
			t.Fatal("the result shares memory with the argument")
		}
	}
}
