package omega

import (
	"math"
	"math/rand"
	"slices"
	"strings"
	"testing"

	"petrinet/api"
)

const w = api.Omega

func same(a, b [][]int) bool {
	return slices.EqualFunc(a, b, slices.Equal[[]int])
}

func TestValid(t *testing.T) {
	for _, m := range [][]int{nil, {}, {0}, {w}, {api.MaxTokens, w, 0}, make([]int, 100)} {
		if !Valid(m, len(m)) {
			t.Errorf("%v is valid", m)
		}
	}
	for _, m := range [][]int{{-2}, {api.MaxTokens + 1}, {0, math.MinInt}, {w, math.MaxInt}} {
		if Valid(m, len(m)) {
			t.Errorf("%v is not valid", m)
		}
	}
	if Valid([]int{1}, 2) || Valid([]int{1, 2}, 1) || Valid(nil, 1) || Valid(nil, -1) || Valid([]int{0}, 0) {
		t.Error("other numbers of places")
	}
}

func TestFinite(t *testing.T) {
	if got := Finite([]int{w, 0, -7, w, math.MaxInt}); !slices.Equal(got, []int{1, 2, 4}) {
		t.Error(got)
	}
	if len(Finite(nil)) != 0 || len(Finite([]int{w, w})) != 0 {
		t.Error("no finite elements")
	}
}

func TestLeqCovers(t *testing.T) {
	for _, c := range []struct {
		a, b        []int
		leq, covers bool
	}{
		{nil, nil, true, true},
		{[]int{1, 0}, []int{1, 0}, true, true},
		{[]int{1, 0}, []int{1, w}, true, true},
		{[]int{1, w}, []int{1, w}, true, false},
		{[]int{w}, []int{api.MaxTokens}, false, false},
		{[]int{api.MaxTokens}, []int{w}, true, true},
		{[]int{2, 0}, []int{1, w}, false, false},
		{[]int{1}, []int{1, 1}, false, false},
		{[]int{1, 1}, []int{1}, false, false},
		{nil, []int{0}, false, false},
		{[]int{-2}, []int{0}, false, false},
		{[]int{-2}, []int{w}, false, false},
		{[]int{0}, []int{api.MaxTokens + 1}, false, false},
		{[]int{-2}, []int{-2}, false, false},
	} {
		if Leq(c.a, c.b) != c.leq || Covers(c.b, c.a) != c.covers {
			t.Errorf("%v and %v: %t %t", c.a, c.b, Leq(c.a, c.b), Covers(c.b, c.a))
		}
	}
}

func TestAccelerate(t *testing.T) {
	for _, c := range [][3][]int{
		{{1, 0, 2}, {1, 1, 2}, {1, w, 2}},
		{{0, w}, {5, w}, {w, w}},
		{{0, 3}, {w, 3}, {w, 3}},
		{{1, 2}, {1, 2}, {1, 2}},
		{nil, nil, nil},
		// Without Leq, high is copied, also if it is not valid.
		{{1, 0}, {0, 1}, {0, 1}},
		{{0}, {1, 1}, {1, 1}},
		{{0}, {api.MaxTokens + 1}, {api.MaxTokens + 1}},
		{{-2, 0}, {0, 5}, {0, 5}},
		{{w}, {5}, {5}},
		{{1}, nil, nil},
	} {
		low, high := slices.Clone(c[0]), slices.Clone(c[1])
		got := Accelerate(low, high)
		if !slices.Equal(got, c[2]) {
			t.Errorf("Accelerate of %v and %v is %v", low, high, got)
		}
		for i := range got {
			got[i] = 99
		}
		if !slices.Equal(low, c[0]) || !slices.Equal(high, c[1]) {
			t.Errorf("arguments changed: %v %v", low, high)
		}
	}
}

func TestMaximal(t *testing.T) {
	for _, c := range []struct{ l, want [][]int }{
		{nil, nil},
		{[][]int{{1, 0}, {1, w}, {1, 5}}, [][]int{{1, w}}},
		{[][]int{{2, 0}, {0, 2}, {1, 1}}, [][]int{{0, 2}, {1, 1}, {2, 0}}},
		{[][]int{{w, 0}, {0, w}, {5, 5}, {5, 5}}, [][]int{{0, w}, {5, 5}, {w, 0}}},
		{[][]int{{1}, {1, 9}, {0}}, [][]int{{1}}},
		{[][]int{{-2}, {api.MaxTokens + 1}, {1, 0}, {5}, {1, -2}}, [][]int{{1, 0}}},
		{[][]int{{-2}, {3, -2}}, nil},
		// An empty marking is valid for its length.
		{[][]int{nil, {1}, {}}, [][]int{{}}},
		{[][]int{{-2}, {}, {1}}, [][]int{{}}},
	} {
		if got := Maximal(c.l); !same(got, c.want) {
			t.Errorf("Maximal of %v is %v", c.l, got)
		}
	}
}

func TestMaximalOfArbitraryLists(t *testing.T) {
	source := rand.New(rand.NewSource(7))
	for range 2000 {
		n := 1 + source.Intn(3)
		var l [][]int
		for range source.Intn(12) {
			m := make([]int, n)
			for i := range m {
				m[i] = source.Intn(5) - 1
			}
			l = append(l, m)
		}
		got := Maximal(l)
		for _, m := range l {
			maximal := !slices.ContainsFunc(l, func(o []int) bool { return Leq(m, o) && !slices.Equal(m, o) })
			if maximal != slices.ContainsFunc(got, func(o []int) bool { return slices.Equal(m, o) }) {
				t.Fatalf("Maximal of %v is %v", l, got)
			}
			if !slices.ContainsFunc(got, func(o []int) bool { return Leq(m, o) }) {
				t.Fatalf("%v is not below Maximal of %v", m, l)
			}
		}
		for i, a := range got {
			for k, b := range got {
				if i != k && Leq(a, b) {
					t.Fatalf("%v is below %v", a, b)
				}
			}
			if i > 0 && slices.CompareFunc(got[i-1], a, order) >= 0 {
				t.Fatalf("%v is not in order", got)
			}
		}
	}
}

// order compares elements by writing Omega as a number above all others.
func order(x, y int) int {
	number := func(x int) int {
		if x == w {
			return math.MaxInt
		}
		return x
	}
	if number(x) < number(y) {
		return -1
	} else if number(x) > number(y) {
		return 1
	}
	return 0
}

func TestMaximalIsNew(t *testing.T) {
	l := [][]int{{1, 2}, {2, 1}}
	got := Maximal(l)
	got[0][0], got[1][0] = 8, 9
	if !same(l, [][]int{{1, 2}, {2, 1}}) {
		t.Error("the argument changed", l)
	}
}

func TestText(t *testing.T) {
	for text, m := range map[string][]int{
		"-": nil, "1,0,w": {1, 0, w}, "w": {w}, "-2,5": {-2, 5}, "1048577": {api.MaxTokens + 1}, "0": {0}, "-9223372036854775808": {math.MinInt},
	} {
		if Text(m) != text {
			t.Errorf("Text of %v is %q", m, Text(m))
		}
	}
}

func TestParse(t *testing.T) {
	full := slices.Repeat([]int{api.MaxTokens}, api.MaxPlaces)
	for _, m := range [][]int{nil, {0}, {w}, {w, 0, w}, {1, 0, 2}, full, slices.Repeat([]int{w}, api.MaxPlaces)} {
		if got, e := Parse(Text(m)); !slices.Equal(got, m) || e != api.OK {
			t.Errorf("Parse(%q) is %v %d", Text(m), got, e)
		}
	}
	for _, s := range []string{
		"", ",", "1,", ",1", "1,,2", "-1", "1,-1", "-2", "01", "+1", "ww", "W", "w,", " w", "1 ,2", "1, 2", "-,-", "--", "1048577", "1\n", "omega",
		"99999999999999999999", strings.Repeat("w,", api.MaxPlaces) + "w", strings.Repeat("0,", api.MaxPlaces) + "0", strings.Repeat("1,", 1<<20), "-0", "1_0",
	} {
		if m, e := Parse(s); len(m) != 0 || e != api.ErrSyntax {
			t.Errorf("Parse(%.40q) is %v %d", s, m, e)
		}
	}
}

func TestAccelerateIsAtLeastHigh(t *testing.T) {
	source := rand.New(rand.NewSource(8))
	for range 2000 {
		low, high := make([]int, 3), make([]int, 3)
		for i := range low {
			low[i], high[i] = source.Intn(4)-1, source.Intn(4)-1
		}
		if !Leq(low, high) {
			continue
		}
		got := Accelerate(low, high)
		if !Valid(got, 3) || !Leq(high, got) || slices.Equal(low, high) && !slices.Equal(got, high) {
			t.Fatalf("Accelerate of %v and %v is %v", low, high, got)
		}
	}
}
