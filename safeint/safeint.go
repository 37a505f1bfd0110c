// Package safeint is layer 1: checked 64-bit arithmetic. See shared/doc/01-safeint.md.
package safeint

import (
	"cmp"
	"math"
	"math/bits"
)

// Add returns the sum; 0 and false if it is not an int64.
func Add(a, b int64) (int64, bool) {
	sum := a + b
	if (sum < a) != (b < 0) {
		return 0, false
	}
	return sum, true
}

// Sub returns the difference; 0 and false if it is not an int64.
func Sub(a, b int64) (int64, bool) {
	difference := a - b
	if (difference > a) != (b < 0) {
		return 0, false
	}
	return difference, true
}

// Mul returns the product; 0 and false if it is not an int64.
func Mul(a, b int64) (int64, bool) {
	p := product(a, b)
	low := int64(p[1])
	if p[0] != uint64(low>>63) {
		return 0, false
	}
	return low, true
}

// Div returns the quotient, rounded toward negative infinity; 0 and false if b is less than 1.
func Div(a, b int64) (int64, bool) {
	if b < 1 {
		return 0, false
	}
	quotient := a / b
	if a%b < 0 {
		quotient--
	}
	return quotient, true
}

// Mod returns the remainder that belongs to Div; 0 and false if b is less than 1.
func Mod(a, b int64) (int64, bool) {
	if b < 1 {
		return 0, false
	}
	remainder := a % b
	if remainder < 0 {
		remainder += b
	}
	return remainder, true
}

// Gcd returns the greatest common divisor; 0 and false if it is not an int64.
func Gcd(a, b int64) (int64, bool) {
	return natural(euclid(magnitude(a), magnitude(b)))
}

// Lcm returns the least common multiple; 0 and false if it is not an int64.
func Lcm(a, b int64) (int64, bool) {
	if a == 0 || b == 0 {
		return 0, true
	}
	x, y := magnitude(a), magnitude(b)
	high, low := bits.Mul64(x/euclid(x, y), y)
	if high != 0 {
		return 0, false
	}
	return natural(low)
}

// Cross compares a * b with c * d.
func Cross(a, b, c, d int64) int {
	p, q := product(a, b), product(c, d)
	if p[0] != q[0] {
		return cmp.Compare(int64(p[0]), int64(q[0]))
	}
	return cmp.Compare(p[1], q[1])
}

// product returns the high and the low half of the exact product, as a number of 128 bits in two's complement.
func product(a, b int64) [2]uint64 {
	high, low := bits.Mul64(uint64(a), uint64(b))
	// A negative factor was taken as itself plus 2^64, which adds the other factor to the high half.
	if a < 0 {
		high -= uint64(b)
	}
	if b < 0 {
		high -= uint64(a)
	}
	return [2]uint64{high, low}
}

// magnitude is unsigned, so that the least int64 has one.
func magnitude(a int64) uint64 {
	if a < 0 {
		return -uint64(a)
	}
	return uint64(a)
}

func natural(x uint64) (int64, bool) {
	if x > math.MaxInt64 {
		return 0, false
	}
	return int64(x), true
}

func euclid(x, y uint64) uint64 {
divide:
	for {
		switch y {
		case 0:
			break divide
		default:
			x, y = y, x%y
		}
	}
	return x
}
