package safeint

import (
	"math"
	"math/big"
	"testing"
)

// edges are the numbers near which results begin or cease to be int64.
var edges = []int64{
	math.MinInt64, math.MinInt64 + 1, math.MinInt64 + 2, -1 << 62, -3037000500, -3037000499, -1<<32 - 1, -1 << 32, -1 << 31, -18, -7, -6, -3, -2, -1,
	0, 1, 2, 3, 4, 6, 7, 12, 1 << 31, 1 << 32, 1<<32 + 1, 3037000499, 3037000500, 1 << 62, math.MaxInt64 - 1, math.MaxInt64,
}

// same fails the test unless the call returned the exact value, or 0 and false if that is not an int64.
func same(t *testing.T, what string, a, b, got int64, ok bool, exact *big.Int) {
	t.Helper()
	if exact.IsInt64() != ok || ok && got != exact.Int64() || !ok && got != 0 {
		t.Errorf("%s(%d, %d) is %d %t, exactly %s", what, a, b, got, ok, exact)
	}
}

func TestAddSubMul(t *testing.T) {
	for _, a := range edges {
		for _, b := range edges {
			x, y := big.NewInt(a), big.NewInt(b)
			got, ok := Add(a, b)
			same(t, "Add", a, b, got, ok, new(big.Int).Add(x, y))
			got, ok = Sub(a, b)
			same(t, "Sub", a, b, got, ok, new(big.Int).Sub(x, y))
			got, ok = Mul(a, b)
			same(t, "Mul", a, b, got, ok, new(big.Int).Mul(x, y))
		}
	}
}

func TestDivMod(t *testing.T) {
	for _, a := range edges {
		for _, b := range edges {
			q, okDiv := Div(a, b)
			r, okMod := Mod(a, b)
			if b < 1 {
				if q != 0 || okDiv || r != 0 || okMod {
					t.Errorf("Div and Mod of %d and %d: %d %t %d %t", a, b, q, okDiv, r, okMod)
				}
				continue
			}
			// For a positive divisor, the division of Euclid rounds toward negative infinity.
			exact, rest := new(big.Int).DivMod(big.NewInt(a), big.NewInt(b), new(big.Int))
			same(t, "Div", a, b, q, okDiv, exact)
			same(t, "Mod", a, b, r, okMod, rest)
		}
	}
	if q, ok := Div(-7, 2); q != -4 || !ok {
		t.Error("Div(-7, 2) is -4", q, ok)
	}
}

func TestGcdLcm(t *testing.T) {
	for _, a := range edges {
		for _, b := range edges {
			x, y := new(big.Int).Abs(big.NewInt(a)), new(big.Int).Abs(big.NewInt(b))
			divisor := new(big.Int).GCD(nil, nil, x, y)
			got, ok := Gcd(a, b)
			same(t, "Gcd", a, b, got, ok, divisor)
			multiple := new(big.Int)
			if a != 0 && b != 0 {
				multiple.Div(new(big.Int).Mul(x, y), divisor)
			}
			got, ok = Lcm(a, b)
			same(t, "Lcm", a, b, got, ok, multiple)
		}
	}
	if g, ok := Gcd(12, -18); g != 6 || !ok {
		t.Error("Gcd(12, -18) is 6", g, ok)
	}
	if g, ok := Gcd(0, 0); g != 0 || !ok {
		t.Error("Gcd(0, 0) is 0", g, ok)
	}
	if m, ok := Lcm(4, 6); m != 12 || !ok {
		t.Error("Lcm(4, 6) is 12", m, ok)
	}
	if m, ok := Lcm(math.MinInt64, 0); m != 0 || !ok {
		t.Error("Lcm of the least number and 0 is 0", m, ok)
	}
	if g, ok := Gcd(math.MinInt64, math.MinInt64); g != 0 || ok {
		t.Error("the Gcd of the least number and itself is no int64", g, ok)
	}
}

func TestGcdTimesLcm(t *testing.T) {
	for a := int64(-30); a <= 30; a++ {
		for b := int64(-30); b <= 30; b++ {
			g, _ := Gcd(a, b)
			m, _ := Lcm(a, b)
			if g != 0 && (a%g != 0 || b%g != 0) {
				t.Errorf("Gcd(%d, %d) is %d", a, b, g)
			}
			if g*m != max(a*b, -a*b) {
				t.Errorf("Gcd times Lcm of %d and %d is %d", a, b, g*m)
			}
		}
	}
}

func TestCross(t *testing.T) {
	for _, a := range edges {
		for _, b := range edges {
			p := new(big.Int).Mul(big.NewInt(a), big.NewInt(b))
			for _, c := range edges {
				for _, d := range edges {
					q := new(big.Int).Mul(big.NewInt(c), big.NewInt(d))
					got := Cross(a, b, c, d)
					if got != p.Cmp(q) || got != -Cross(c, d, a, b) {
						t.Fatalf("Cross(%d, %d, %d, %d) is %d", a, b, c, d, got)
					}
				}
			}
		}
	}
}
