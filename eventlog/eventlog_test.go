package eventlog

import (
	"slices"
	"strings"
	"testing"

	"petrinet/api"
)

// choice has the traces "a b" and "a c".
var choice = [][]string{{"a", "b"}, {"a", "c"}}

var varied = [][]string{{"a", "b"}, nil, {"a", "b"}, {"a", "c", "b"}, {}, {"b", "b", "b"}}

// strange has activities that are no names.
var strange = [][]string{{"", "A b"}, {"", "A", "b"}, {"", "A b"}, {"1 a"}, {"", "", ""}}

func equal(a, b [][]string) bool {
	return slices.EqualFunc(a, b, slices.Equal[[]string])
}

func TestName(t *testing.T) {
	if !Name("a") || !Name("_") || !Name("a_.9") || !Name(strings.Repeat("q", api.MaxName)) {
		t.Error("names")
	}
	if Name("") || Name("-") || Name("9a") || Name(".a") || Name("aB") || Name("a b") || Name(strings.Repeat("q", api.MaxName+1)) {
		t.Error("texts that are no names")
	}
}

func TestCheck(t *testing.T) {
	long := slices.Repeat([]string{"a"}, api.MaxTrace+1)
	for _, x := range []struct {
		l    [][]string
		want api.Fault
	}{
		{nil, api.Fault{}}, {varied, api.Fault{}}, {[][]string{long[1:]}, api.Fault{}}, {make([][]string, api.MaxTraces), api.Fault{}},
		{append(make([][]string, api.MaxTraces), []string{"?"}), api.Fault{Errno: api.ErrSize}},
		{[][]string{{"a"}, {"a", "A"}}, api.Fault{Errno: api.ErrName, At: 1}}, {[][]string{{"-"}}, api.Fault{Errno: api.ErrName}},
		{[][]string{nil, nil, long, {"?"}}, api.Fault{Errno: api.ErrSize, At: 2}}, {[][]string{{"?"}, long}, api.Fault{Errno: api.ErrName}},
		{[][]string{nil, slices.Repeat([]string{"?"}, api.MaxTrace+1)}, api.Fault{Errno: api.ErrSize, At: 1}},
	} {
		if f := Check(x.l); f != x.want {
			t.Error("Check", x.l, f)
		}
	}
}

func TestText(t *testing.T) {
	if s, f := Text(varied); s != "a b\n-\na b\na c b\n-\nb b b\n" || f != (api.Fault{}) {
		t.Errorf("Text %q %v", s, f)
	}
	if s, f := Text(nil); s != "" || f != (api.Fault{}) {
		t.Errorf("Text of the empty log %q %v", s, f)
	}
	if s, f := Text([][]string{{"a"}, {"-"}}); s != "" || f != (api.Fault{Errno: api.ErrName, At: 1}) {
		t.Errorf("Text of a log that is not valid %q %v", s, f)
	}
}

func TestParse(t *testing.T) {
	for _, x := range []struct {
		s    string
		want [][]string
	}{
		{"", nil}, {"\n", nil}, {"  \n\n   ", nil}, {"a", [][]string{{"a"}}}, {"a b\na c\n", choice}, {"  a   b \n\n \na c", choice}, {"-", [][]string{nil}}, {" - \na\n-\n", [][]string{nil, {"a"}, nil}},
		{strings.Repeat("\n", api.MaxText), nil}, {strings.Repeat(" ", api.MaxText-1) + "a", [][]string{{"a"}}},
		{strings.Repeat("-\n", api.MaxTraces) + "\n \n", make([][]string, api.MaxTraces)},
		{strings.Repeat("a ", api.MaxTrace), [][]string{slices.Repeat([]string{"a"}, api.MaxTrace)}},
	} {
		if l, f := Parse(x.s); !equal(l, x.want) || f != (api.Fault{}) {
			t.Errorf("Parse of %.40q is %v %v", x.s, l, f)
		}
	}
}

func TestParseFaults(t *testing.T) {
	full := strings.Repeat("-\n", api.MaxTraces)
	long := strings.Repeat("a ", api.MaxTrace+1)
	for _, x := range []struct {
		s    string
		e    api.Errno
		line int
	}{
		{strings.Repeat("?", api.MaxText+1), api.ErrSize, 0}, {strings.Repeat("\n", api.MaxText+1), api.ErrSize, 0}, {"?", api.ErrSyntax, 1}, {"a\n\na B\n?", api.ErrSyntax, 3},
		{"a\n- a\n", api.ErrSyntax, 2}, {"a -", api.ErrSyntax, 1}, {"- -", api.ErrSyntax, 1}, {"--", api.ErrSyntax, 1}, {"a\tb", api.ErrSyntax, 1}, {"a\r\n", api.ErrSyntax, 1}, {"\t", api.ErrSyntax, 1},
		{strings.Repeat("a", api.MaxName+1), api.ErrSyntax, 1}, {"\n" + long, api.ErrSize, 2}, {long + "?", api.ErrSyntax, 1}, {long + "\n?", api.ErrSize, 1},
		{full + "\n-", api.ErrSize, api.MaxTraces + 2}, {full + "a", api.ErrSize, api.MaxTraces + 1}, {full + "?", api.ErrSyntax, api.MaxTraces + 1}, {full + "a -", api.ErrSyntax, api.MaxTraces + 1},
	} {
		if l, f := Parse(x.s); len(l) != 0 || f != (api.Fault{Errno: x.e, At: x.line}) {
			t.Errorf("Parse of %.40q is %v %v", x.s, l, f)
		}
	}
}

func TestParseOfText(t *testing.T) {
	full := slices.Repeat([][]string{slices.Repeat([]string{strings.Repeat("a", 15)}, api.MaxTrace)}, api.MaxTraces)
	for _, l := range [][][]string{nil, {nil}, choice, varied, full} {
		s, f := Text(l)
		if f != (api.Fault{}) {
			t.Error("Text", l, f)
		}
		if got, f := Parse(s); !equal(got, l) || f != (api.Fault{}) {
			t.Errorf("Parse of %.40q is %v %v", s, got, f)
		}
	}
}

// TestTextBeyondMaxText keeps to the letter of both promises: Text has no limit of bytes, and Parse has one.
func TestTextBeyondMaxText(t *testing.T) {
	full := slices.Repeat([][]string{slices.Repeat([]string{strings.Repeat("a", 16)}, api.MaxTrace)}, api.MaxTraces)
	s, f := Text(full)
	if len(s) != 17*api.MaxTrace*api.MaxTraces || f != (api.Fault{}) {
		t.Error("Text", len(s), f)
	}
	if l, f := Parse(s); len(l) != 0 || f != (api.Fault{Errno: api.ErrSize}) {
		t.Error("Parse", len(l), f)
	}
}

func TestActivities(t *testing.T) {
	if a := Activities([][]string{{"c", "a"}, nil, {"b", "a_", "a"}}); !slices.Equal(a, []string{"a", "a_", "b", "c"}) {
		t.Error("Activities", a)
	}
	if len(Activities(nil)) != 0 || len(Activities([][]string{nil})) != 0 {
		t.Error("Activities of logs without any")
	}
	if a := Activities(strange); !slices.Equal(a, []string{"", "1 a", "A", "A b", "b"}) {
		t.Error("Activities that are no names", a)
	}
}

func TestVariants(t *testing.T) {
	v, n := Variants(varied)
	if !equal(v, [][]string{{"a", "b"}, nil, {"a", "c", "b"}, {"b", "b", "b"}}) || !slices.Equal(n, []int{2, 2, 1, 1}) {
		t.Error("Variants", v, n)
	}
	v, n = Variants(strange)
	if !equal(v, [][]string{{"", "A b"}, {"", "A", "b"}, {"1 a"}, {"", "", ""}}) || !slices.Equal(n, []int{2, 1, 1, 1}) {
		t.Error("Variants of activities that are no names", v, n)
	}
	// Texts that would look alike, if the activities were joined without their lengths.
	v, _ = Variants([][]string{{"a", "b"}, {"a b"}, {"a1 b"}, {"ab"}, {"1 a"}, {"a\x00", "b"}, {"a", "\x00b"}, {""}, nil})
	if len(v) != 9 {
		t.Error("Variants that look alike", v)
	}
	if v, n := Variants(nil); len(v) != 0 || len(n) != 0 {
		t.Error("Variants of the empty log", v, n)
	}
	for _, l := range [][][]string{nil, choice, varied, strange} {
		sum := 0
		_, counts := Variants(l)
		for _, n := range counts {
			sum += n
		}
		if sum != len(l) {
			t.Error("the numbers of Variants", l, sum)
		}
	}
}

func TestFollows(t *testing.T) {
	for _, x := range []struct {
		a, b string
		want int
	}{{"a", "b", 2}, {"b", "a", 0}, {"b", "b", 2}, {"a", "c", 1}, {"c", "b", 1}, {"a", "x", 0}, {"", "", 0}} {
		if n := Follows(varied, x.a, x.b); n != x.want {
			t.Error("Follows", x, n)
		}
	}
	if Follows(strange, "", "") != 2 || Follows(nil, "a", "b") != 0 || Follows([][]string{{"a"}, {"b"}}, "a", "b") != 0 {
		t.Error("Follows at the edges")
	}
}

func TestFirstAndLast(t *testing.T) {
	if a := First([][]string{nil, {"b", "x"}, {"a"}, {"b"}}); !slices.Equal(a, []string{"a", "b"}) {
		t.Error("First", a)
	}
	if a := Last([][]string{{"x", "b"}, {"a"}, nil, {"b"}}); !slices.Equal(a, []string{"a", "b"}) {
		t.Error("Last", a)
	}
	if len(First([][]string{nil})) != 0 || len(Last(nil)) != 0 {
		t.Error("First and Last without activities")
	}
}

func TestRelation(t *testing.T) {
	for _, x := range []struct {
		l    [][]string
		a, b string
		want int
	}{
		{choice, "a", "b", api.Causes}, {choice, "b", "a", api.Caused}, {choice, "b", "c", api.Apart}, {choice, "a", "a", api.Apart}, {choice, "x", "y", api.Apart},
		{[][]string{{"a", "b"}, {"b", "a"}}, "a", "b", api.Around}, {[][]string{{"a", "a"}}, "a", "a", api.Around}, {nil, "a", "b", api.Apart}, {[][]string{{"a", "c", "b"}}, "a", "b", api.Apart},
	} {
		if r := Relation(x.l, x.a, x.b); r != x.want {
			t.Error("Relation", x, r)
		}
	}
}

func TestArgumentsStay(t *testing.T) {
	l := [][]string{{"b", "a"}, {"b", "a"}, {"c"}}
	v, _ := Variants(l)
	v[0][0] = "x"
	for _, names := range [][]string{Activities(l), First(l), Last(l)} {
		names[0] = "x"
	}
	if !equal(l, [][]string{{"b", "a"}, {"b", "a"}, {"c"}}) {
		t.Error("an argument was changed", l)
	}
}
