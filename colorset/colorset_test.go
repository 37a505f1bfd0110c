package colorset

import (
	"math"
	"slices"
	"strings"
	"testing"

	"petrinet/api"
)

var three = api.ColorSet{Name: "c", Values: []string{"a", "b", "red"}}

// numbered is a color set with n values.
func numbered(n int) api.ColorSet {
	c := api.ColorSet{Name: "c"}
	for i := range n {
		c.Values = append(c.Values, "v"+string(rune('a'+i)))
	}
	return c
}

func TestName(t *testing.T) {
	if !Name("a") || !Name("_") || !Name("a.1_") || !Name(strings.Repeat("z", api.MaxName)) {
		t.Error("names")
	}
	if Name("") || Name("1a") || Name(".a") || Name("A") || Name("a b") || Name("a'") || Name(strings.Repeat("z", api.MaxName+1)) {
		t.Error("texts that are no names")
	}
}

func TestCheck(t *testing.T) {
	for _, x := range []struct {
		c    api.ColorSet
		want api.Errno
	}{
		{three, api.OK}, {numbered(1), api.OK}, {numbered(api.MaxColors), api.OK}, {numbered(api.MaxColors + 1), api.ErrSize}, {numbered(0), api.ErrSize},
		{api.ColorSet{}, api.ErrName}, {api.ColorSet{Name: "A", Values: []string{"a", "a"}}, api.ErrName}, {api.ColorSet{Name: "c", Values: []string{"a", "?"}}, api.ErrName},
		{api.ColorSet{Name: "c", Values: []string{"a", "b", "a"}}, api.ErrTwice}, {api.ColorSet{Name: "c", Values: []string{"a", "a", "?"}}, api.ErrTwice},
		{api.ColorSet{Name: "c", Values: []string{"a", "?", "a"}}, api.ErrName}, {api.ColorSet{Name: "c", Values: []string{"?", "?"}}, api.ErrName},
		{api.ColorSet{Name: "c", Values: slices.Repeat([]string{"a"}, 13)}, api.ErrSize},
	} {
		if e := Check(x.c); e != x.want {
			t.Error("Check", x.c, e)
		}
	}
}

func TestFind(t *testing.T) {
	for i, v := range three.Values {
		if Find(three, v) != i {
			t.Error("Find", v)
		}
	}
	if Find(three, "x") != -1 || Find(three, "") != -1 || Find(api.ColorSet{}, "") != -1 {
		t.Error("Find of what is no value")
	}
	if Find(api.ColorSet{Values: []string{"?", "", "A", "", "A"}}, "A") != 2 || Find(api.ColorSet{Values: []string{"?", ""}}, "") != 1 {
		t.Error("Find in a color set that is not valid")
	}
}

func TestShift(t *testing.T) {
	for _, x := range [][3]int{{0, -1, 2}, {2, 1, 0}, {1, 0, 1}, {1, 3, 1}, {1, -3, 1}, {1, math.MinInt, 2}, {2, math.MaxInt, 0}, {3, 0, -1}, {-1, 1, -1}, {math.MaxInt, math.MaxInt, -1}} {
		if got := Shift(three, x[0], x[1]); got != x[2] {
			t.Error("Shift", x, got)
		}
	}
	if Shift(api.ColorSet{}, 0, 1) != -1 || Shift(api.ColorSet{Values: []string{"?", "?"}}, 1, 1) != 0 {
		t.Error("Shift in a color set that is not valid")
	}
}

func TestShiftBack(t *testing.T) {
	for k := 1; k <= api.MaxColors; k++ {
		c := numbered(k)
		for i := range k {
			if Shift(c, i, k) != i || Shift(c, i, 0) != i {
				t.Error("Shift by the number of values, and by 0", k, i)
			}
			for _, x := range []int{1, 2, 5, 100, math.MaxInt} {
				if Shift(c, Shift(c, i, x), -x) != i {
					t.Error("Shift forth and back", k, i, x)
				}
			}
		}
	}
}

func TestAdd(t *testing.T) {
	if a := Add([]int{1, 2}, []int{0, 3}); !slices.Equal(a, []int{1, 5}) {
		t.Error("Add", a)
	}
	if a := Add([]int{api.MaxTokens - 1}, []int{1}); !slices.Equal(a, []int{api.MaxTokens}) {
		t.Error("Add up to MaxTokens", a)
	}
	for _, x := range [][2][]int{{{1}, {0, 3}}, {{0, 3}, {1}}, {nil, {0}}, {{api.MaxTokens}, {1}}, {{-1}, {1}}, {{1}, {-1}}, {{api.MaxTokens + 1}, {0}}, {{math.MaxInt}, {math.MaxInt}}, {nil, nil}} {
		if a := Add(x[0], x[1]); len(a) != 0 {
			t.Error("Add", x, a)
		}
	}
}

func TestLeqAndSub(t *testing.T) {
	for _, x := range []struct {
		a, b []int
		want bool
	}{
		{nil, nil, true}, {[]int{1, 2}, []int{1, 3}, true}, {[]int{1, 4}, []int{1, 3}, false}, {[]int{-1}, []int{3}, false}, {[]int{0}, []int{api.MaxTokens + 1}, false},
		{[]int{-2}, []int{-1}, false}, {nil, []int{0}, false}, {[]int{0}, nil, false}, {[]int{0}, []int{api.MaxTokens}, true},
	} {
		if Leq(x.a, x.b) != x.want {
			t.Error("Leq", x.a, x.b)
		}
		if got := Sub(x.b, x.a); !x.want && len(got) != 0 {
			t.Error("Sub", x.b, x.a, got)
		}
	}
	if a := Sub([]int{1, 5}, []int{0, 3}); !slices.Equal(a, []int{1, 2}) {
		t.Error("Sub", a)
	}
}

func TestSubUndoesAdd(t *testing.T) {
	for i := range 81 {
		a, b := []int{i % 3, i / 3 % 3}, []int{i / 9 % 3, i / 27}
		if got := Sub(Add(a, b), b); !slices.Equal(got, a) || !Leq(a, Add(a, b)) {
			t.Error("Sub of Add", a, b, got)
		}
	}
}

func TestScale(t *testing.T) {
	for _, x := range []struct {
		a    []int
		k    int
		want []int
	}{
		{[]int{1, 0, 2}, 3, []int{3, 0, 6}}, {[]int{4}, 0, []int{0}}, {[]int{1}, api.MaxTokens, []int{api.MaxTokens}}, {[]int{1}, api.MaxTokens + 1, nil},
		{[]int{0}, math.MaxInt, []int{0}}, {[]int{1}, 1 << 62, nil}, {[]int{2}, math.MaxInt, nil}, {[]int{4}, 1 << 62, nil}, {[]int{1}, -1, nil}, {[]int{0}, math.MinInt, nil},
		{[]int{-1}, 0, nil}, {[]int{api.MaxTokens + 1}, 0, nil}, {nil, 2, nil},
	} {
		if got := Scale(x.a, x.k); !slices.Equal(got, x.want) {
			t.Error("Scale", x.a, x.k, got)
		}
	}
}

func TestText(t *testing.T) {
	for _, x := range []struct {
		a    []int
		want string
	}{
		{[]int{2, 1, 0}, "2'a + 1'b"}, {[]int{0, 0, 12}, "12'red"}, {[]int{0, 0, 0}, "0"}, {[]int{api.MaxTokens, 0, 0}, "1048576'a"},
		{nil, ""}, {[]int{1}, ""}, {[]int{1, 1, 1, 1}, ""}, {[]int{-1, 0, 0}, ""}, {[]int{api.MaxTokens + 1, 0, 0}, ""},
	} {
		if s := Text(three, x.a); s != x.want {
			t.Error("Text", x.a, s)
		}
	}
	if Text(api.ColorSet{}, nil) != "" || Text(api.ColorSet{Name: "c", Values: []string{"a", "a"}}, []int{1, 1}) != "" {
		t.Error("Text in a color set that is not valid")
	}
}

func TestParse(t *testing.T) {
	for _, a := range [][]int{{0, 0, 0}, {2, 1, 0}, {0, 0, 12}, {api.MaxTokens, api.MaxTokens, api.MaxTokens}} {
		if got, e := Parse(three, Text(three, a)); !slices.Equal(got, a) || e != api.OK {
			t.Error("Parse of Text", a, got, e)
		}
	}
	for _, s := range []string{
		"", "0'a", "00", "-", "1'red + 1'a", "1'a + 1'a", "1'a + 0'b", "1'x", "1a", "1'", "'a", "1'a+1'b", "1'a  + 1'b", "1'a + ", " + 1'a", " 1'a", "1'a ", "01'a", "+1'a", "-1'a",
		"1048577'a", "9223372036854775808'a", "1''a", "1'a'", "1'a + 1'b + 1'a", "0 + 1'a", strings.Repeat(" + ", 1000),
	} {
		if a, e := Parse(three, s); len(a) != 0 || e != api.ErrSyntax {
			t.Errorf("Parse of %q is %v %d", s, a, e)
		}
	}
	for _, c := range []api.ColorSet{{}, {Name: "c"}, {Name: "c", Values: []string{"a", "a"}}} {
		if a, e := Parse(c, "?"); len(a) != 0 || e != Check(c) {
			t.Error("Parse in a color set that is not valid", c, a, e)
		}
	}
}

func TestArgumentsStay(t *testing.T) {
	a, b := []int{3, 4}, []int{1, 2}
	for _, result := range [][]int{Add(a, b), Add(a, []int{0, 0}), Sub(a, b), Scale(a, 1)} {
		result[0] = 9
	}
	if !slices.Equal(a, []int{3, 4}) || !slices.Equal(b, []int{1, 2}) {
		t.Error("an argument was changed", a, b)
	}
}
