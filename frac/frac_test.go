package frac

import (
	"math"
	"math/big"
	"math/rand"
	"strings"
	"testing"

	"petrinet/api"
)

var parts = []int64{
	math.MinInt64, math.MinInt64 + 1, -1 << 62, -1<<62 + 1, -3037000500, -1 << 32, -12, -6, -4, -3, -2, -1,
	0, 1, 2, 3, 4, 5, 6, 12, 1<<31 + 1, 1 << 32, 3037000499, 1 << 62, 1<<62 - 1, math.MaxInt64 - 1, math.MaxInt64,
}

// normal returns the normal form of an exact number, and whether it is representable.
func normal(x *big.Rat) (api.Rat, bool) {
	if !x.Num().IsInt64() || !x.Denom().IsInt64() || x.Num().Int64() == math.MinInt64 {
		return api.Rat{}, false
	}
	return api.Rat{Num: x.Num().Int64(), Den: x.Denom().Int64()}, true
}

func exact(a api.Rat) *big.Rat {
	return big.NewRat(a.Num, a.Den)
}

// same fails the test unless the call returned the normal form of the exact number, or ErrOver if it is not representable.
func same(t *testing.T, what string, a, b any, got api.Rat, e api.Errno, x *big.Rat) {
	t.Helper()
	want, ok := normal(x)
	if ok && (e != api.OK || got != want) || !ok && (e != api.ErrOver || got != api.Rat{}) {
		t.Errorf("%s of %v and %v is %v %d, exactly %s", what, a, b, got, e, x)
	}
}

// operands are valid numbers, many of them at the ends of the range.
func operands() []api.Rat {
	seen := map[api.Rat]bool{}
	var list []api.Rat
	for _, num := range parts {
		for _, den := range parts {
			if r, e := Make(num, den); e == api.OK && !seen[r] {
				seen[r] = true
				list = append(list, r)
			}
		}
	}
	return list
}

var invalid = []api.Rat{
	{}, {Num: 1}, {Num: 1, Den: -1}, {Num: 2, Den: 4}, {Num: -2, Den: 2}, {Num: 0, Den: 2}, {Num: 3, Den: -2},
	{Num: math.MinInt64, Den: 1}, {Num: math.MinInt64, Den: 3}, {Num: 1, Den: math.MinInt64}, {Num: math.MinInt64, Den: math.MinInt64},
}

func TestMake(t *testing.T) {
	for _, num := range parts {
		for _, den := range parts {
			got, e := Make(num, den)
			if den == 0 {
				if e != api.ErrZero || got != (api.Rat{}) {
					t.Errorf("Make(%d, 0) is %v %d", num, got, e)
				}
				continue
			}
			same(t, "Make", num, den, got, e, big.NewRat(num, 1).Quo(big.NewRat(num, 1), big.NewRat(den, 1)))
			if e == api.OK && !Valid(got) {
				t.Errorf("Make(%d, %d) is %v, which is not valid", num, den, got)
			}
		}
	}
	if r, e := Make(6, -4); r != (api.Rat{Num: -3, Den: 2}) || e != api.OK {
		t.Error("Make(6, -4) is -3/2", r, e)
	}
	if r, e := Make(math.MinInt64, 2); r != (api.Rat{Num: -1 << 62, Den: 1}) || e != api.OK {
		t.Error("half of the least number", r, e)
	}
	if r, e := Make(math.MinInt64, 1); r != (api.Rat{}) || e != api.ErrOver {
		t.Error("the least number is not representable", r, e)
	}
	if r, e := Make(math.MinInt64, math.MinInt64); r != (api.Rat{Num: 1, Den: 1}) || e != api.OK {
		t.Error("the least number divided by itself is 1", r, e)
	}
	if r, e := Make(0, math.MinInt64); r != (api.Rat{Num: 0, Den: 1}) || e != api.OK {
		t.Error("0 divided by the least number is 0", r, e)
	}
}

func TestValid(t *testing.T) {
	for _, a := range invalid {
		if Valid(a) {
			t.Errorf("%v is not valid", a)
		}
	}
	for _, a := range []api.Rat{{Num: 0, Den: 1}, {Num: 1, Den: 1}, {Num: -3, Den: 2}, {Num: -math.MaxInt64, Den: 1}, {Num: 1, Den: math.MaxInt64}, {Num: math.MaxInt64, Den: math.MaxInt64 - 1}} {
		if !Valid(a) {
			t.Errorf("%v is valid", a)
		}
	}
}

func TestOperations(t *testing.T) {
	list := operands()
	for _, a := range list {
		for _, b := range list {
			check(t, a, b)
		}
	}
}

func check(t *testing.T, a, b api.Rat) {
	t.Helper()
	x, y := exact(a), exact(b)
	sum, e := Add(a, b)
	same(t, "Add", a, b, sum, e, new(big.Rat).Add(x, y))
	difference, e := Sub(a, b)
	same(t, "Sub", a, b, difference, e, new(big.Rat).Sub(x, y))
	product, e := Mul(a, b)
	same(t, "Mul", a, b, product, e, new(big.Rat).Mul(x, y))
	quotient, e := Div(a, b)
	if b.Num != 0 {
		same(t, "Div", a, b, quotient, e, new(big.Rat).Quo(x, y))
	} else if e != api.ErrZero || quotient != (api.Rat{}) {
		t.Errorf("Div of %v and 0 is %v %d", a, quotient, e)
	}
	if c, e := Cmp(a, b); c != x.Cmp(y) || e != api.OK {
		t.Errorf("Cmp of %v and %v is %d %d", a, b, c, e)
	}
}

func TestOperationsOnArbitraryNumbers(t *testing.T) {
	source := rand.New(rand.NewSource(2))
	number := func() api.Rat {
		for {
			num, den := int64(source.Uint64())>>source.Intn(64), int64(source.Uint64())>>source.Intn(64)
			if r, e := Make(num, den); e == api.OK {
				return r
			}
		}
	}
	for range 20000 {
		a, b := number(), number()
		check(t, a, b)
		// A common factor of the denominators is what sums can cancel.
		if den := a.Den / 2 * 2; den > 0 {
			c, d := api.Rat{Num: a.Num, Den: den}, api.Rat{Num: b.Num, Den: den}
			if Valid(c) && Valid(d) {
				check(t, c, d)
			}
		}
	}
}

func TestIntermediateResultsMayBeGreat(t *testing.T) {
	third := api.Rat{Num: math.MaxInt64 - 1, Den: math.MaxInt64}
	if r, e := Sub(third, third); r != (api.Rat{Num: 0, Den: 1}) || e != api.OK {
		t.Error("Sub", r, e)
	}
	if r, e := Mul(third, api.Rat{Num: math.MaxInt64, Den: math.MaxInt64 - 1}); r != (api.Rat{Num: 1, Den: 1}) || e != api.OK {
		t.Error("Mul", r, e)
	}
	if r, e := Div(third, third); r != (api.Rat{Num: 1, Den: 1}) || e != api.OK {
		t.Error("Div", r, e)
	}
	if r, e := Add(third, api.Rat{Num: 1, Den: math.MaxInt64}); r != (api.Rat{Num: 1, Den: 1}) || e != api.OK {
		t.Error("Add", r, e)
	}
	if r, e := Sub(api.Rat{Num: -1 << 62, Den: 1}, api.Rat{Num: 1 << 62, Den: 1}); r != (api.Rat{}) || e != api.ErrOver {
		t.Error("the least number as a difference", r, e)
	}
	if r, e := Mul(api.Rat{Num: -1 << 62, Den: 3}, api.Rat{Num: 6, Den: 1}); r != (api.Rat{}) || e != api.ErrOver {
		t.Error("the least number as a product", r, e)
	}
}

func TestInvalidOperands(t *testing.T) {
	one, zero := api.Rat{Num: 1, Den: 1}, api.Rat{Num: 0, Den: 1}
	for _, operation := range []func(a, b api.Rat) (api.Rat, api.Errno){Add, Sub, Mul, Div} {
		for _, a := range invalid {
			for _, pair := range [][2]api.Rat{{a, one}, {one, a}, {a, zero}, {a, a}} {
				if r, e := operation(pair[0], pair[1]); r != (api.Rat{}) || e != api.ErrRange {
					t.Errorf("%v is %v %d", pair, r, e)
				}
			}
		}
	}
	for _, a := range invalid {
		if c, e := Cmp(a, one); c != 0 || e != api.ErrRange {
			t.Errorf("Cmp of %v and 1 is %d %d", a, c, e)
		}
		if c, e := Cmp(one, a); c != 0 || e != api.ErrRange {
			t.Errorf("Cmp of 1 and %v is %d %d", a, c, e)
		}
		if f, e := Floor(a); f != 0 || e != api.ErrRange {
			t.Errorf("Floor of %v is %d %d", a, f, e)
		}
	}
}

func TestFloor(t *testing.T) {
	for _, a := range operands() {
		want := new(big.Int).Div(exact(a).Num(), exact(a).Denom())
		if f, e := Floor(a); f != want.Int64() || e != api.OK {
			t.Errorf("Floor of %v is %d %d", a, f, e)
		}
	}
	for _, c := range []struct {
		a    api.Rat
		want int64
	}{{api.Rat{Num: -3, Den: 2}, -2}, {api.Rat{Num: 3, Den: 2}, 1}, {api.Rat{Num: -4, Den: 1}, -4}, {api.Rat{Num: -1, Den: math.MaxInt64}, -1}} {
		if f, e := Floor(c.a); f != c.want || e != api.OK {
			t.Errorf("Floor of %v is %d %d", c.a, f, e)
		}
	}
}

func TestText(t *testing.T) {
	for text, a := range map[string]api.Rat{
		"-3/2": {Num: -3, Den: 2}, "0": {Num: 0, Den: 1}, "7": {Num: 7, Den: 1}, "1/9223372036854775807": {Num: 1, Den: math.MaxInt64},
		"-9223372036854775807": {Num: -math.MaxInt64, Den: 1},
	} {
		if Text(a) != text {
			t.Errorf("Text of %v is %q", a, Text(a))
		}
	}
	for _, a := range invalid {
		if Text(a) != "?" {
			t.Errorf("Text of %v is %q", a, Text(a))
		}
	}
	for _, a := range operands() {
		if r, e := Parse(Text(a)); r != a || e != api.OK {
			t.Errorf("Parse(%q) is %v %d", Text(a), r, e)
		}
	}
}

func TestParseErrors(t *testing.T) {
	for _, s := range []string{
		"", "?", "2/4", "3/1", "0/1", "0/2", "-0", "+1", "01", "1/02", "1/+2", "1/-2", "-1/-2", "1/0", "1/", "/1", "/", "1/2/3", " 1", "1 ", "1 /2", "1_0",
		"a", "1/a", "a/2", "1.5", "-", "--1", "9223372036854775808", "-9223372036854775808", "-9223372036854775808/3", "1/9223372036854775808",
		"0x1", "1\n", "１", strings.Repeat("9", 100000),
	} {
		if r, e := Parse(s); r != (api.Rat{}) || e != api.ErrSyntax {
			t.Errorf("Parse(%q) is %v %d", s, r, e)
		}
	}
}

func TestLaws(t *testing.T) {
	list := operands()
	source := rand.New(rand.NewSource(3))
	for range 50000 {
		a, b, c := list[source.Intn(len(list))], list[source.Intn(len(list))], list[source.Intn(len(list))]
		for _, operation := range []func(a, b api.Rat) (api.Rat, api.Errno){Add, Mul} {
			ab, e := operation(a, b)
			ba, f := operation(b, a)
			if ab != ba || e != f {
				t.Fatalf("%v and %v do not commute", a, b)
			}
			bc, f := operation(b, c)
			if e != api.OK || f != api.OK {
				continue
			}
			left, e := operation(ab, c)
			right, f := operation(a, bc)
			if left != right || e != f {
				t.Fatalf("%v, %v and %v do not associate", a, b, c)
			}
		}
		if sum, e := Add(a, b); e == api.OK {
			if r, e := Sub(sum, b); r != a || e != api.OK {
				t.Fatalf("Sub of the sum of %v and %v is %v %d", a, b, r, e)
			}
		}
		if product, e := Mul(a, b); e == api.OK && b.Num != 0 {
			if r, e := Div(product, b); r != a || e != api.OK {
				t.Fatalf("Div of the product of %v and %v is %v %d", a, b, r, e)
			}
		}
	}
}
