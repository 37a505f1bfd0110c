package simplex

import (
	"math"
	"math/big"
	"math/rand"
	"slices"
	"testing"

	"petrinet/api"
	"petrinet/frac"
)

func rat(num, den int64) api.Rat {
	x, e := frac.Make(num, den)
	if e != api.OK {
		panic(e)
	}
	return x
}

// whole returns integers as rational numbers.
func whole(numbers ...int64) []api.Rat {
	var list []api.Rat
	for _, n := range numbers {
		list = append(list, rat(n, 1))
	}
	return list
}

func row(rel int, bound int64, coef ...int64) api.Row {
	return api.Row{Coef: whole(coef...), Rel: rel, Bound: rat(bound, 1)}
}

var invalidRats = []api.Rat{{}, {Num: 1}, {Num: 2, Den: 4}, {Num: 1, Den: -1}, {Num: math.MinInt64, Den: 1}, {Num: 0, Den: 2}}

func TestCheck(t *testing.T) {
	good := row(api.Le, 3, 1, 2)
	for i, c := range []struct {
		rows []api.Row
		n    int
		e    api.Errno
	}{
		{nil, 1, api.OK},
		{nil, 16, api.OK},
		{nil, 0, api.ErrSize},
		{nil, -1, api.ErrSize},
		{nil, 17, api.ErrSize},
		{nil, math.MaxInt, api.ErrSize},
		{[]api.Row{good, row(api.Eq, 1, 0, 0), row(api.Ge, -1, 0, 0)}, 2, api.OK},
		{slices.Repeat([]api.Row{good}, 64), 2, api.OK},
		{slices.Repeat([]api.Row{good}, 65), 2, api.ErrSize},
		{[]api.Row{good, row(api.Le, 1, 1)}, 2, api.ErrSize},
		{[]api.Row{good, row(api.Le, 1, 1, 2, 3)}, 2, api.ErrSize},
		{[]api.Row{{Rel: 9, Bound: api.Rat{}}}, 2, api.ErrSize},
		{[]api.Row{row(0, 1, 1, 1), row(api.Le, 1)}, 2, api.ErrKind},
		{[]api.Row{row(4, 1, 1, 1)}, 2, api.ErrKind},
		{[]api.Row{row(-1, 1, 1, 1)}, 2, api.ErrKind},
		{[]api.Row{{Coef: whole(1, 1), Rel: 9}}, 2, api.ErrRange},
		{[]api.Row{{Coef: []api.Rat{{Num: 1, Den: 1}, {}}, Rel: 9, Bound: rat(1, 1)}}, 2, api.ErrRange},
	} {
		if e := Check(c.rows, c.n); e != c.e {
			t.Errorf("case %d: %d, want %d", i, e, c.e)
		}
		x, ok, e := Feasible(c.rows, c.n)
		if e != c.e || e != api.OK && (len(x) != 0 || ok) {
			t.Errorf("case %d: Feasible %v %t %d", i, x, ok, e)
		}
		if c.n < 0 || c.n > 99 {
			continue
		}
		x, value, kind, e := Maximize(c.rows, slices.Repeat(whole(0), c.n))
		if e != c.e || e != api.OK && (len(x) != 0 || value != api.Rat{} || kind != 0) {
			t.Errorf("case %d: Maximize %v %v %d %d", i, x, value, kind, e)
		}
		if ok, e := Satisfies(c.rows, slices.Repeat(whole(0), c.n)); e != c.e || e != api.OK && ok {
			t.Errorf("case %d: Satisfies %t %d", i, ok, e)
		}
	}
	for _, bad := range invalidRats {
		if e := Check([]api.Row{{Coef: whole(1), Rel: api.Le, Bound: bad}}, 1); e != api.ErrRange {
			t.Error(bad, e)
		}
		if e := Check([]api.Row{{Coef: []api.Rat{bad}, Rel: api.Le, Bound: rat(1, 1)}}, 1); e != api.ErrRange {
			t.Error(bad, e)
		}
		if x, value, kind, e := Maximize(nil, []api.Rat{rat(1, 1), bad}); len(x) != 0 || value != (api.Rat{}) || kind != 0 || e != api.ErrRange {
			t.Error(bad, x, value, kind, e)
		}
		if _, _, _, e := Maximize([]api.Row{row(9, 1, 1)}, []api.Rat{bad}); e != api.ErrKind {
			t.Error(bad, e)
		}
	}
}

func TestValue(t *testing.T) {
	const most = math.MaxInt64
	for i, c := range []struct {
		c, x []api.Rat
		want api.Rat
		e    api.Errno
	}{
		{nil, nil, rat(0, 1), api.OK},
		{whole(2, -3), []api.Rat{rat(1, 2), rat(2, 3)}, rat(-1, 1), api.OK},
		{whole(1), nil, api.Rat{}, api.ErrSize},
		{whole(1), []api.Rat{{}, {}}, api.Rat{}, api.ErrSize},
		{whole(most, 2), []api.Rat{rat(2, 1), {}}, api.Rat{}, api.ErrRange},
		{[]api.Rat{{}}, whole(1), api.Rat{}, api.ErrRange},
		{whole(most), whole(2), api.Rat{}, api.ErrOver},
		{whole(most, 1, -5), whole(1, 1, 1), api.Rat{}, api.ErrOver},
		{whole(most, -5, 1), whole(1, 1, 1), rat(most-4, 1), api.OK},
		{slices.Repeat(whole(1), 100), slices.Repeat(whole(2), 100), rat(200, 1), api.OK},
	} {
		if v, e := Value(c.c, c.x); v != c.want || e != c.e {
			t.Errorf("case %d: %v %d", i, v, e)
		}
	}
}

func TestSatisfies(t *testing.T) {
	rows := []api.Row{row(api.Le, 4, 1, 1), row(api.Ge, 1, 1, -1), row(api.Eq, 2, 0, 2)}
	for i, c := range []struct {
		x    []api.Rat
		want bool
		e    api.Errno
	}{
		{whole(2, 1), true, api.OK},
		{whole(3, 1), true, api.OK},
		{whole(4, 1), false, api.OK},
		{whole(1, 1), false, api.OK},
		{whole(3, 0), false, api.OK},
		{[]api.Rat{rat(5, 2), rat(1, 1)}, true, api.OK},
		{[]api.Rat{rat(7, 2), rat(1, 1)}, false, api.OK},
		{whole(5, -1), false, api.OK},
		{whole(-1, math.MaxInt64), false, api.OK},
		{whole(1), false, api.ErrSize},
		{nil, false, api.ErrSize},
		{[]api.Rat{rat(-1, 1), {}}, false, api.ErrRange},
		{whole(math.MaxInt64, math.MaxInt64), false, api.ErrOver},
		// The first row is not satisfied, so that the third one is not examined.
		{whole(4, math.MaxInt64-4), false, api.OK},
	} {
		if ok, e := Satisfies(rows, c.x); ok != c.want || e != c.e {
			t.Errorf("case %d: %t %d", i, ok, e)
		}
	}
	if ok, e := Satisfies(nil, whole(0)); !ok || e != api.OK {
		t.Error("no rows", ok, e)
	}
}

func TestMaximize(t *testing.T) {
	for i, c := range []struct {
		rows  []api.Row
		c     []api.Rat
		kind  int
		value api.Rat
	}{
		{[]api.Row{row(api.Le, 3, 1)}, whole(1), Optimal, rat(3, 1)},
		{nil, whole(1), Limitless, rat(0, 1)},
		{nil, whole(0), Optimal, rat(0, 1)},
		{nil, whole(-1), Optimal, rat(0, 1)},
		{[]api.Row{row(api.Le, 2, 1, 1), row(api.Ge, 3, 1, 0)}, whole(1, 1), Infeasible, rat(0, 1)},
		{[]api.Row{row(api.Le, -1, 1)}, whole(1), Infeasible, rat(0, 1)},
		{[]api.Row{row(api.Eq, 1, 0)}, whole(1), Infeasible, rat(0, 1)},
		{[]api.Row{row(api.Eq, 0, 0)}, whole(1), Limitless, rat(0, 1)},
		{[]api.Row{row(api.Ge, 2, 1)}, whole(-3), Optimal, rat(-6, 1)},
		{[]api.Row{row(api.Eq, 3, 2, 0), row(api.Le, 1, 0, 3)}, whole(1, 1), Optimal, rat(11, 6)},
		{[]api.Row{row(api.Le, 1, 1, -1)}, whole(1, -1), Optimal, rat(1, 1)},
		{[]api.Row{row(api.Le, 1, 1, -1)}, whole(2, -1), Limitless, rat(0, 1)},
	} {
		x, value, kind, e := Maximize(c.rows, c.c)
		if kind != c.kind || value != c.value || e != api.OK || (kind == Optimal) != (len(x) > 0) {
			t.Errorf("case %d: %v %v %d %d", i, x, value, kind, e)
		}
	}
}

func TestOver(t *testing.T) {
	const most = math.MaxInt64
	// The vector is representable, but not its value.
	rows := []api.Row{row(api.Le, most, 1)}
	if x, value, kind, e := Maximize(rows, whole(2)); len(x) != 0 || value != (api.Rat{}) || kind != 0 || e != api.ErrOver {
		t.Error(x, value, kind, e)
	}
	if x, value, kind, e := Maximize(rows, whole(1)); !slices.Equal(x, whole(most)) || value != rat(most, 1) || kind != Optimal || e != api.OK {
		t.Error(x, value, kind, e)
	}
	// The only vector does not satisfy the last row, as a partial sum is not representable.
	rows = []api.Row{row(api.Eq, 1, 1, 0, 0), row(api.Eq, 1, 0, 1, 0), row(api.Eq, 1, 0, 0, 1), row(api.Le, most, most, most, -most)}
	if ok, e := Satisfies(rows, whole(1, 1, 1)); ok || e != api.ErrOver {
		t.Error(ok, e)
	}
	if x, ok, e := Feasible(rows, 3); len(x) != 0 || ok || e != api.ErrOver {
		t.Error(x, ok, e)
	}
	if x, value, kind, e := Maximize(rows, whole(1, 1, 1)); len(x) != 0 || value != (api.Rat{}) || kind != 0 || e != api.ErrOver {
		t.Error(x, value, kind, e)
	}
}

// exact is a system of linear constraints with rational numbers of any size: coefficients, then the bound.
type exact struct {
	rels  []int
	cells [][]*big.Rat
}

func (s *exact) add(rel int, numbers ...api.Rat) {
	var cells []*big.Rat
	for _, x := range numbers {
		cells = append(cells, big.NewRat(x.Num, x.Den))
	}
	s.rels = append(s.rels, rel)
	s.cells = append(s.cells, cells)
}

func dot(a, x []*big.Rat) *big.Rat {
	sum := new(big.Rat)
	for i := range x {
		sum.Add(sum, new(big.Rat).Mul(a[i], x[i]))
	}
	return sum
}

func (s *exact) holds(x []*big.Rat) bool {
	for i, cells := range s.cells {
		order := dot(cells, x).Cmp(cells[len(x)])
		if order < 0 && s.rels[i] != api.Le || order > 0 && s.rels[i] != api.Ge {
			return false
		}
	}
	return true
}

// vertices returns the points at which n constraints are tight and all of them hold.
func (s *exact) vertices(n int) [][]*big.Rat {
	var found [][]*big.Rat
	var choose func(tight [][]*big.Rat, next int)
	choose = func(tight [][]*big.Rat, next int) {
		if len(tight) == n {
			if x := solved(tight, n); x != nil && s.holds(x) {
				found = append(found, x)
			}
			return
		}
		for i := next; i < len(s.cells); i++ {
			choose(append(slices.Clone(tight), s.cells[i]), i+1)
		}
	}
	choose(nil, 0)
	return found
}

// solved returns the only solution of n equations, or nil.
func solved(equations [][]*big.Rat, n int) []*big.Rat {
	var a [][]*big.Rat
	for _, row := range equations {
		var l []*big.Rat
		for _, x := range row {
			l = append(l, new(big.Rat).Set(x))
		}
		a = append(a, l)
	}
	for k := range n {
		i := k + slices.IndexFunc(a[k:], func(row []*big.Rat) bool { return row[k].Sign() != 0 })
		if i < k {
			return nil
		}
		a[k], a[i] = a[i], a[k]
		for i := range a {
			if i != k && a[i][k].Sign() != 0 {
				factor := new(big.Rat).Quo(a[i][k], a[k][k])
				for j := range a[i] {
					a[i][j].Sub(a[i][j], new(big.Rat).Mul(factor, a[k][j]))
				}
			}
		}
	}
	var x []*big.Rat
	for k := range n {
		x = append(x, new(big.Rat).Quo(a[k][n], a[k][k]))
	}
	return x
}

// system returns the constraints of a program, with those of the variables; homogeneous replaces the bounds by 0 and requires that the variables add up to 1.
func system(rows []api.Row, n int, homogeneous bool) *exact {
	s := &exact{}
	zero := rat(0, 1)
	for _, r := range rows {
		bound := r.Bound
		if homogeneous {
			bound = zero
		}
		s.add(r.Rel, append(slices.Clone(r.Coef), bound)...)
	}
	for i := range n {
		unit := slices.Repeat([]api.Rat{zero}, n+1)
		unit[i] = rat(1, 1)
		s.add(api.Ge, unit...)
	}
	if homogeneous {
		s.add(api.Eq, slices.Repeat(whole(1), n+1)...)
	}
	return s
}

// best returns the greatest value of c at the points, or nil if there are none.
func best(points [][]*big.Rat, c []api.Rat) *big.Rat {
	var goal []*big.Rat
	for _, x := range c {
		goal = append(goal, big.NewRat(x.Num, x.Den))
	}
	var greatest *big.Rat
	for _, x := range points {
		if value := dot(goal, x); greatest == nil || value.Cmp(greatest) > 0 {
			greatest = value
		}
	}
	return greatest
}

// checkProgram compares Feasible and Maximize with an enumeration of vertices, and returns the kind; -1 for ErrOver.
func checkProgram(t *testing.T, rows []api.Row, c []api.Rat) int {
	t.Helper()
	n := len(c)
	x, ok, e := Feasible(rows, n)
	y, value, kind, f := Maximize(rows, c)
	if e == api.ErrOver || f == api.ErrOver {
		if e != api.OK && (len(x) != 0 || ok) || f != api.OK && (len(y) != 0 || value != api.Rat{} || kind != 0) {
			t.Fatal("results with an error", rows, c)
		}
		return -1
	}
	greatest := best(system(rows, n, false).vertices(n), c)
	limitless := false
	if ray := best(system(rows, n, true).vertices(n), c); ray != nil {
		limitless = ray.Sign() > 0
	}
	want := Optimal
	switch {
	case greatest == nil:
		want = Infeasible
	case limitless:
		want = Limitless
	}
	if e != api.OK || f != api.OK || kind != want || ok != (greatest != nil) || ok != (len(x) > 0) {
		t.Fatal("kind", rows, c, kind, want, ok, e, f)
	}
	if ok {
		if holds, e := Satisfies(rows, x); !holds || e != api.OK {
			t.Fatal("Feasible", rows, x)
		}
	}
	if kind != Optimal {
		if value != rat(0, 1) || len(y) != 0 {
			t.Fatal("a result that is not optimal", rows, c, y, value)
		}
		return kind
	}
	holds, e := Satisfies(rows, y)
	reached, f := Value(c, y)
	if !holds || e != api.OK || f != api.OK || reached != value || greatest.Cmp(big.NewRat(value.Num, value.Den)) != 0 {
		t.Fatal("Maximize", rows, c, y, value, greatest)
	}
	return kind
}

// randomRow returns a row whose numbers come from the function.
func randomRow(r *rand.Rand, n int, number func() api.Rat) api.Row {
	row := api.Row{Rel: 1 + r.Intn(3), Bound: number()}
	for range n {
		row.Coef = append(row.Coef, number())
	}
	return row
}

func TestSmallPrograms(t *testing.T) {
	r := rand.New(rand.NewSource(34))
	kinds := map[int]int{}
	for range 1500 {
		size := int64(1 + r.Intn(5))
		number := func() api.Rat { return rat(r.Int63n(2*size+1)-size, 1) }
		n := 1 + r.Intn(4)
		var rows []api.Row
		for range r.Intn(6) {
			rows = append(rows, randomRow(r, n, number))
		}
		kinds[checkProgram(t, rows, randomRow(r, n, number).Coef)]++
	}
	if kinds[-1] > 0 || kinds[Infeasible] < 150 || kinds[Optimal] < 150 || kinds[Limitless] < 150 {
		t.Error("results", kinds)
	}
}

func TestSmallProgramsAreNotOver(t *testing.T) {
	r := rand.New(rand.NewSource(35))
	for range 30000 {
		// Such numbers have the greatest determinants.
		number := func() api.Rat { return rat([]int64{-5, 5, -5, 5, 4, 3, -4}[r.Intn(7)], 1) }
		var rows []api.Row
		for range 5 {
			rows = append(rows, randomRow(r, 4, number))
			if r.Intn(2) == 0 {
				rows[len(rows)-1].Rel = api.Eq
			}
		}
		c := randomRow(r, 4, number).Coef
		x, ok, e := Feasible(rows, 4)
		y, _, kind, f := Maximize(rows, c)
		if e != api.OK || f != api.OK || ok != (kind != Infeasible) {
			t.Fatal(rows, c, x, y, e, f)
		}
	}
}

func TestFractions(t *testing.T) {
	r := rand.New(rand.NewSource(36))
	kinds := map[int]int{}
	for range 1000 {
		number := func() api.Rat { return rat(r.Int63n(41)-20, 1+r.Int63n(20)) }
		if r.Intn(10) == 0 {
			number = func() api.Rat { return rat(r.Int63()-1<<62, 1+r.Int63()) }
		}
		n := 1 + r.Intn(3)
		var rows []api.Row
		for range r.Intn(5) {
			rows = append(rows, randomRow(r, n, number))
		}
		kinds[checkProgram(t, rows, randomRow(r, n, number).Coef)]++
	}
	if kinds[-1] == 0 || kinds[Infeasible] < 100 || kinds[Optimal] < 100 || kinds[Limitless] < 50 {
		t.Error("results", kinds)
	}
}

// dual returns the rows and the goal of the dual program, whose greatest value is that of the program with the other sign.
func dual(rows []api.Row, c []api.Rat) ([]api.Row, []api.Rat) {
	var goal []api.Rat
	for _, r := range rows {
		goal = append(goal, rat(-r.Bound.Num, r.Bound.Den))
	}
	var columns []api.Row
	for k, x := range c {
		column := api.Row{Rel: api.Ge, Bound: x}
		for _, r := range rows {
			column.Coef = append(column.Coef, r.Coef[k])
		}
		columns = append(columns, column)
	}
	return columns, goal
}

func TestDuality(t *testing.T) {
	r := rand.New(rand.NewSource(37))
	optimal := 0
	for _, most := range []int{4, 16} {
		for range 300 {
			number := func() api.Rat { return rat(r.Int63n(6)-2, 1) }
			n := 1 + r.Intn(most)
			var rows []api.Row
			for range 1 + r.Intn(most) {
				rows = append(rows, randomRow(r, n, number))
				rows[len(rows)-1].Rel = api.Le
			}
			c := randomRow(r, n, number).Coef
			_, value, kind, e := Maximize(rows, c)
			_, other, otherKind, f := Maximize(dual(rows, c))
			if e != api.OK || f != api.OK {
				continue
			}
			if (kind == Optimal) != (otherKind == Optimal) || kind == Limitless && otherKind != Infeasible {
				t.Fatal("kinds", rows, c, kind, otherKind)
			}
			if kind == Optimal {
				optimal++
				if value != rat(-other.Num, other.Den) {
					t.Fatal("values", rows, c, value, other)
				}
			}
		}
	}
	if optimal < 100 {
		t.Error("too few optimal values", optimal)
	}
}

func TestLargePrograms(t *testing.T) {
	r := rand.New(rand.NewSource(38))
	solved := 0
	for range 20 {
		known := make([]api.Rat, 16)
		for i := range known {
			known[i] = rat(r.Int63n(4), 1)
		}
		number := func() api.Rat { return rat(max(-1, r.Int63n(7)-4)%3, 1) }
		var rows []api.Row
		for range 64 {
			row := randomRow(r, 16, number)
			row.Bound, _ = Value(row.Coef, known)
			rows = append(rows, row)
		}
		x, ok, e := Feasible(rows, 16)
		if e == api.ErrOver {
			continue
		}
		solved++
		if holds, e := Satisfies(rows, x); !ok || !holds || e != api.OK {
			t.Fatal(rows, x, ok, e)
		}
		y, value, kind, e := Maximize(rows, randomRow(r, 16, number).Coef)
		if holds, f := Satisfies(rows, y); e == api.OK && kind == Optimal && (!holds || f != api.OK || !frac.Valid(value)) || e == api.OK && kind == Infeasible {
			t.Fatal(rows, y, kind, e, f)
		}
	}
	if solved < 10 {
		t.Error("too few programs are solved", solved)
	}
}

func TestArgumentsAreKept(t *testing.T) {
	rows := []api.Row{row(api.Ge, 1, 1, 2), row(api.Eq, 3, 1, 1)}
	c := whole(1, 5)
	x, _, _, _ := Maximize(rows, c)
	x[0], x[1] = api.Rat{}, api.Rat{}
	if !slices.Equal(rows[0].Coef, whole(1, 2)) || !slices.Equal(rows[1].Coef, whole(1, 1)) || rows[0].Bound != rat(1, 1) || !slices.Equal(c, whole(1, 5)) {
		t.Error("an argument was changed")
	}
}
