package semiflow

import (
	"math/bits"
	"slices"

	"petrinet/api"
	"petrinet/vector"
)

// ray is a minimal semiflow of the equations that have been solved.
type ray struct {
	// numbers are the elements of the semiflow, followed by the product of each row of the matrix and the semiflow.
	numbers []int64
	// support has a bit for each element of the semiflow that is not 0; a matrix has at most 64 columns.
	support uint64
}

// system is a system of equations, of which some are open. The rays are all minimal semiflows of the others: no support is contained in another one.
type system struct {
	columns int
	rays    []ray
	open    []int
	solved  int
}

// start returns the system of a valid matrix in which all equations are open.
func start(a [][]int64) *system {
	s := &system{columns: len(a[0])}
	for i, unit := range units(s.columns) {
		for _, row := range a {
			unit = append(unit, row[i])
		}
		s.rays = append(s.rays, ray{unit, 1 << i})
	}
	for row := range a {
		s.open = append(s.open, row)
	}
	return s
}

// value returns the product of a row and a ray.
func (s *system) value(row int, r ray) int64 {
	return r.numbers[s.columns+row]
}

// choose removes from the open equations the one with the fewest pairs of rays to combine, which keeps the number of rays small, and returns it.
func (s *system) choose() int {
	best, fewest := 0, -1
	for i, row := range s.open {
		positive, negative := 0, 0
		for _, r := range s.rays {
			switch value := s.value(row, r); {
			case value > 0:
				positive++
			case value < 0:
				negative++
			}
		}
		if pairs := positive * negative; fewest < 0 || pairs < fewest {
			best, fewest = i, pairs
		}
	}
	row := s.open[best]
	s.open = slices.Delete(s.open, best, best+1)
	return row
}

// eliminate solves an equation: rays with the value 0 remain, and the others are combined in pairs.
func (s *system) eliminate(row int) api.Errno {
	s.solved++
	var positive, negative, next []ray
	for _, r := range s.rays {
		switch value := s.value(row, r); {
		case value > 0:
			positive = append(positive, r)
		case value < 0:
			negative = append(negative, r)
		default:
			next = append(next, r)
		}
	}
	combine := func(p, q ray) ([]int64, api.Errno) {
		factors, e := vector.Prim([]int64{s.value(row, p), s.value(row, q)})
		if e != api.OK {
			return nil, e
		}
		sum, e := vector.Combine(p.numbers, -factors[1], q.numbers, factors[0])
		if e != api.OK {
			return nil, e
		}
		return vector.Prim(sum)
	}
	for _, p := range positive {
	pairs:
		for _, q := range negative {
			support := p.support | q.support
			// The columns of a minimal support have a rank that is only by one less than their number.
			if bits.OnesCount64(support) > s.solved+1 {
				continue pairs
			}
			for _, r := range s.rays {
				if r.support|support == support && r.support != p.support && r.support != q.support {
					continue pairs
				}
			}
			numbers, e := combine(p, q)
			if e != api.OK {
				return e
			}
			next = append(next, ray{numbers, support})
			if len(next) > api.MaxRows {
				return api.ErrLimit
			}
		}
	}
	s.rays = next
	return api.OK
}
