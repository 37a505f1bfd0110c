package matrix

import (
	"slices"

	"petrinet/api"
	"petrinet/safeint"
	"petrinet/vector"
)

// pivots are the columns of the pivots, row by row.
type pivots struct {
	columns []int
}

func (p *pivots) add(column int) {
	p.columns = append(p.columns, column)
}

func (p *pivots) has(column int) bool {
	return slices.Contains(p.columns, column)
}

// reduced consists of primitive rows, the first of which, one for each pivot, are in reduced echelon form as far as their columns have been visited.
type reduced struct {
	pivots
	rows [][]int64
}

// reduce returns the reduced echelon form.
func reduce(a [][]int64) (reduced, api.Errno) {
	if !Valid(a) {
		return reduced{}, api.ErrSize
	}
	var r reduced
	for _, row := range a {
		primitive, e := vector.Prim(row)
		if e != api.OK {
			return reduced{}, e
		}
		r.rows = append(r.rows, primitive)
	}
columns:
	for column := range a[0] {
		row := r.choose(column)
		if row < 0 {
			continue columns
		}
		if e := r.eliminate(row, column); e != api.OK {
			return reduced{}, e
		}
	}
	r.rows = r.rows[:len(r.columns)]
	return r, api.OK
}

// choose returns, of the rows without a pivot, the one with the smallest number in the column that is not 0, which keeps the results of the elimination small; -1 if there is none.
func (r *reduced) choose(column int) int {
	best := -1
	for i := len(r.columns); i < len(r.rows); i++ {
		if x := r.rows[i][column]; x != 0 && (best < 0 || magnitude(x) < magnitude(r.rows[best][column])) {
			best = i
		}
	}
	return best
}

// magnitude returns the absolute value of an element of a primitive row, which is not the least int64.
func magnitude(x int64) int64 {
	return max(x, -x)
}

// eliminate makes the row that of the next pivot, and the column 0 in all other rows.
func (r *reduced) eliminate(row, column int) api.Errno {
	next := len(r.columns)
	r.rows[next], r.rows[row] = r.rows[row], r.rows[next]
	if r.rows[next][column] < 0 {
		for k := range r.rows[next] {
			r.rows[next][k] = -r.rows[next][k]
		}
	}
	pivot := r.rows[next][column]
	for i, other := range r.rows {
		if i == next || other[column] == 0 {
			continue
		}
		common := divisor(pivot, other[column])
		difference, e := vector.Combine(other, pivot/common, r.rows[next], -(other[column] / common))
		if e != api.OK {
			return e
		}
		if r.rows[i], e = vector.Prim(difference); e != api.OK {
			return e
		}
	}
	r.add(column)
	return api.OK
}

// solution returns the primitive vector of the kernel that is positive in a column without a pivot, and 0 in all others without a pivot.
func (r *reduced) solution(column, length int) ([]int64, api.Errno) {
	x := make([]int64, length)
	x[column] = 1
	for i, row := range r.rows {
		pivot := row[r.columns[i]]
		var ok bool
		// The pivot times its variable has to be a multiple of the element in the column.
		if x[column], ok = safeint.Lcm(x[column], pivot/divisor(pivot, row[column])); !ok {
			return nil, api.ErrOver
		}
	}
	for i, row := range r.rows {
		pivot := row[r.columns[i]]
		common := divisor(pivot, row[column])
		value, ok := safeint.Mul(-(row[column] / common), x[column]/(pivot/common))
		if !ok {
			return nil, api.ErrOver
		}
		x[r.columns[i]] = value
	}
	return x, api.OK
}

// divisor returns the greatest common divisor of a positive number and a number that is not the least int64.
func divisor(pivot, x int64) int64 {
	common, _ := safeint.Gcd(pivot, x)
	return common
}
