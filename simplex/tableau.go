package simplex

import (
	"slices"

	"petrinet/api"
	"petrinet/frac"
)

// tableau says of each row that its basic variable, plus the sum of its cells times the free variables, is its last cell. The last row says this of the goal. Variables are numbered: first those of the program, then the slack of each row. A vector is found by setting the free variables to 0.
type tableau struct {
	basic, free []int
	cells       [][]api.Rat
}

// start returns the tableau in which the variables of the program are free.
func start(rows []api.Row, c []api.Rat) *tableau {
	t := &tableau{}
	for variable := range c {
		t.free = append(t.free, variable)
	}
	add := func(row api.Row, sign func(x api.Rat) api.Rat) {
		var cells []api.Rat
		for _, x := range row.Coef {
			cells = append(cells, sign(x))
		}
		t.basic = append(t.basic, len(c)+len(t.basic))
		t.cells = append(t.cells, append(cells, sign(row.Bound)))
	}
	same := func(x api.Rat) api.Rat { return x }
	for _, row := range rows {
		if row.Rel != api.Ge {
			add(row, same)
		}
		if row.Rel != api.Le {
			add(row, negated)
		}
	}
	goal := make([]api.Rat, len(c)+1)
	for i, x := range c {
		goal[i] = negated(x)
	}
	goal[len(c)].Den = 1
	t.cells = append(t.cells, goal)
	return t
}

func negated(x api.Rat) api.Rat {
	return api.Rat{Num: -x.Num, Den: x.Den}
}

func negative(x api.Rat) bool {
	return x.Num < 0
}

// settle pivots until no basic variable is negative, and reports whether this is possible. It always takes the variables with the least numbers, and so never returns to a tableau.
func (t *tableau) settle() (bool, api.Errno) {
	bound := len(t.free)
pivoting:
	for {
		row := least(t.basic, func(i int) bool { return negative(t.cells[i][bound]) })
		if row < 0 {
			break pivoting
		}
		column := least(t.free, func(k int) bool { return negative(t.cells[row][k]) })
		if column < 0 {
			return false, api.OK
		}
		if e := t.pivot(row, column); e != api.OK {
			return false, e
		}
	}
	return true, api.OK
}

// improve pivots until no free variable increases the goal, and reports whether there is such a tableau. No basic variable is negative, before and after; the rule of Bland keeps it from running in a circle.
func (t *tableau) improve() (bool, api.Errno) {
	goal := t.cells[len(t.basic)]
pivoting:
	for {
		column := least(t.free, func(k int) bool { return negative(goal[k]) })
		if column < 0 {
			break pivoting
		}
		row, e := t.tightest(column)
		if e != api.OK || row < 0 {
			return false, e
		}
		if e := t.pivot(row, column); e != api.OK {
			return false, e
		}
	}
	return true, api.OK
}

// tightest returns the row that permits the least increase of a free variable, of several the one with the least basic variable; -1 if every increase is permitted.
func (t *tableau) tightest(column int) (int, api.Errno) {
	best := -1
	var smallest api.Rat
	for i, variable := range t.basic {
		if t.cells[i][column].Num <= 0 {
			continue
		}
		increase, e := frac.Div(t.cells[i][len(t.free)], t.cells[i][column])
		if e != api.OK {
			return -1, e
		}
		// Valid numbers have no errors when they are compared.
		order, _ := frac.Cmp(increase, smallest)
		if best < 0 || order < 0 || increase == smallest && variable < t.basic[best] {
			best, smallest = i, increase
		}
	}
	return best, api.OK
}

// least returns the index of the least variable among those with usable indices, or -1.
func least(variables []int, usable func(i int) bool) int {
	best := -1
	for i, v := range variables {
		if (best < 0 || v < variables[best]) && usable(i) {
			best = i
		}
	}
	return best
}

// pivot exchanges a basic variable with a free one.
func (t *tableau) pivot(row, column int) api.Errno {
	one, zero := api.Rat{Num: 1, Den: 1}, api.Rat{Den: 1}
	inverse, e := frac.Div(one, t.cells[row][column])
	if e != api.OK {
		return e
	}
	for i, cells := range t.cells {
		if i == row || cells[column] == zero {
			continue
		}
		factor, e := frac.Mul(cells[column], inverse)
		if e != api.OK {
			return e
		}
		if e := subtract(cells, factor, t.cells[row]); e != api.OK {
			return e
		}
		cells[column] = negated(factor)
	}
	t.cells[row][column] = one
	for k, x := range t.cells[row] {
		if t.cells[row][k], e = frac.Mul(x, inverse); e != api.OK {
			return e
		}
	}
	t.basic[row], t.free[column] = t.free[column], t.basic[row]
	return api.OK
}

// subtract subtracts a multiple of other from the cells.
func subtract(cells []api.Rat, factor api.Rat, other []api.Rat) api.Errno {
	zero := api.Rat{Den: 1}
	for k, x := range other {
		if x == zero {
			continue
		}
		product, e := frac.Mul(factor, x)
		if e != api.OK {
			return e
		}
		if cells[k], e = frac.Sub(cells[k], product); e != api.OK {
			return e
		}
	}
	return api.OK
}

// solution returns the values of the variables of the program.
func (t *tableau) solution(n int) []api.Rat {
	x := slices.Repeat([]api.Rat{{Den: 1}}, n)
	for i, v := range t.basic {
		if v < n {
			x[v] = t.cells[i][len(t.free)]
		}
	}
	return x
}
