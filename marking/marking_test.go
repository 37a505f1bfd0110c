package marking

import (
	"math"
	"slices"
	"strings"
	"testing"

	"petrinet/api"
)

// small lists all markings of two places with at most two tokens on each.
func small() [][]int {
	var l [][]int
	for a := range 3 {
		for b := range 3 {
			l = append(l, []int{a, b})
		}
	}
	return l
}

func TestValid(t *testing.T) {
	for _, x := range []struct {
		m    []int
		n    int
		want bool
	}{
		{nil, 0, true}, {[]int{}, 0, true}, {nil, 1, false}, {nil, -1, false}, {[]int{0, 1}, 2, true}, {[]int{0, 1}, 1, false}, {[]int{0, 1}, 3, false},
		{[]int{api.MaxTokens}, 1, true}, {[]int{api.MaxTokens + 1}, 1, false}, {[]int{0, -1}, 2, false}, {[]int{math.MinInt, math.MaxInt}, 2, false},
		{make([]int, 100), 100, true}, {nil, math.MaxInt, false},
	} {
		if Valid(x.m, x.n) != x.want {
			t.Error("Valid", x.m, x.n)
		}
	}
}

func TestUnit(t *testing.T) {
	for n := 1; n <= api.MaxPlaces; n++ {
		for i := range n {
			m := Unit(n, i)
			if !Valid(m, n) || Total(m) != 1 || m[i] != 1 {
				t.Error("Unit", n, i, m)
			}
		}
	}
	for _, x := range [][2]int{{0, 0}, {-1, 0}, {3, 3}, {3, -1}, {25, 0}, {math.MaxInt, 0}, {math.MinInt, math.MinInt}, {1, math.MaxInt}} {
		if m := Unit(x[0], x[1]); len(m) != 0 {
			t.Error("Unit", x, m)
		}
	}
}

func TestLeq(t *testing.T) {
	if !Leq(nil, []int{}) || !Leq([]int{0, 3}, []int{1, 3}) || Leq([]int{0, 4}, []int{1, 3}) || Leq([]int{0}, []int{0, 0}) || Leq([]int{0, 0}, []int{0}) {
		t.Error("Leq")
	}
	if !Leq([]int{math.MinInt}, []int{math.MaxInt}) || Leq([]int{math.MaxInt}, []int{math.MinInt}) {
		t.Error("Leq of arbitrary numbers")
	}
}

func TestMaxMin(t *testing.T) {
	a, b := []int{1, 0, -5}, []int{0, 3, math.MaxInt}
	if m := Max(a, b); !slices.Equal(m, []int{1, 3, math.MaxInt}) {
		t.Error("Max", m)
	}
	if m := Min(a, b); !slices.Equal(m, []int{0, 0, -5}) {
		t.Error("Min", m)
	}
	if len(Max(nil, []int{1})) != 0 || len(Min([]int{1}, nil)) != 0 || len(Max([]int{1, 2}, []int{1})) != 0 || len(Max(nil, nil)) != 0 {
		t.Error("Max and Min of different lengths")
	}
	Max(a, a)[0], Min(a, a)[0] = 9, 9
	if a[0] != 1 {
		t.Error("a result shares memory with an argument")
	}
}

func TestLattice(t *testing.T) {
	for _, a := range small() {
		for _, b := range small() {
			least, greatest := Max(a, b), Min(a, b)
			if Leq(a, b) && Leq(b, a) != slices.Equal(a, b) {
				t.Error("Leq is antisymmetric", a, b)
			}
			if Leq(a, b) && Compare(a, b) > 0 {
				t.Error("Compare extends Leq", a, b)
			}
			if Compare(a, b) != -Compare(b, a) || (Compare(a, b) == 0) != slices.Equal(a, b) {
				t.Error("Compare is a total order", a, b)
			}
			for _, c := range small() {
				if Leq(least, c) != (Leq(a, c) && Leq(b, c)) || Leq(c, greatest) != (Leq(c, a) && Leq(c, b)) {
					t.Error("bounds of", a, b, c)
				}
				if Leq(a, b) && Leq(b, c) && !Leq(a, c) {
					t.Error("Leq is transitive", a, b, c)
				}
			}
		}
	}
}

func TestTotal(t *testing.T) {
	full := slices.Repeat([]int{api.MaxTokens}, api.MaxPlaces)
	for _, x := range []struct {
		m    []int
		want int
	}{{nil, 0}, {[]int{2, 5}, 7}, {[]int{-1, 2}, -1}, {[]int{api.MaxTokens + 1}, -1}, {full, api.MaxPlaces * api.MaxTokens}, {make([]int, api.MaxPlaces+1), -1}} {
		if got := Total(x.m); got != x.want {
			t.Error("Total", x.m, got)
		}
	}
}

func TestCompare(t *testing.T) {
	ascending := [][]int{nil, {math.MinInt}, {-1, 5}, {0}, {0, -1}, {0, 0}, {0, 0, 0}, {0, 2}, {1}, {math.MaxInt}}
	for i, a := range ascending {
		for j, b := range ascending {
			want := 0
			if i < j {
				want = -1
			}
			if i > j {
				want = 1
			}
			if got := Compare(a, b); got != want {
				t.Error("Compare", a, b, got)
			}
		}
	}
}

func TestText(t *testing.T) {
	for _, x := range []struct {
		m    []int
		want string
	}{{nil, "-"}, {[]int{1, 0, 2}, "1,0,2"}, {[]int{-20}, "-20"}, {[]int{math.MinInt64, 0}, "-9223372036854775808,0"}} {
		if s := Text(x.m); s != x.want {
			t.Error("Text", x.m, s)
		}
	}
	if s := Text(make([]int, 30)); s != strings.Repeat("0,", 29)+"0" {
		t.Error("Text of many elements", s)
	}
}

func TestParse(t *testing.T) {
	full := slices.Repeat([]int{api.MaxTokens}, api.MaxPlaces)
	for _, m := range [][]int{nil, {0}, {1, 0, 2}, {api.MaxTokens}, make([]int, api.MaxPlaces), full} {
		if got, e := Parse(Text(m)); !slices.Equal(got, m) || e != api.OK {
			t.Error("Parse of", Text(m), got, e)
		}
	}
	for _, s := range []string{
		"", ",", "01", "00", "1,", ",1", "1,,2", "-1", "-0", "+1", "1 ,2", " 1", "1\n", "1048577", "1,-", "--", "a", "0x1", "1_0", "1e1", "9223372036854775808", "18446744073709551617",
		"-,-", "٣", strings.Repeat("0,", api.MaxPlaces) + "0", strings.Repeat("0", 200), strings.Repeat(",", 100000),
	} {
		if m, e := Parse(s); len(m) != 0 || e != api.ErrSyntax {
			t.Errorf("Parse(%q) is %v %d", s, m, e)
		}
	}
}
