package binding

import (
	"math"
	"math/rand"
	"slices"
	"strconv"
	"strings"
	"testing"

	"petrinet/api"
)

// sets are color sets of 2, 3 and 1 values.
func sets() []api.ColorSet {
	return []api.ColorSet{{Name: "two", Values: []string{"a", "b"}}, {Name: "three", Values: []string{"x", "y", "z"}}, {Name: "one", Values: []string{"dot"}}}
}

// trans has a variable over two colors, two over three, and one over one.
func trans(guards ...api.Guard) api.ColorTrans {
	return api.ColorTrans{Name: "t", Vars: []api.Var{{Name: "u", Set: 0}, {Name: "v", Set: 1}, {Name: "w", Set: 1}, {Name: "k", Set: 2}}, Guards: guards}
}

func same(a, b [][]int) bool {
	return slices.EqualFunc(a, b, slices.Equal[[]int])
}

func TestCheckValid(t *testing.T) {
	many := slices.Repeat([]api.ColorSet{{Name: "c", Values: []string{"a"}}}, api.MaxTypes)
	for i, e := range []api.Errno{
		Check(sets(), trans()),
		Check(sets(), trans(api.Guard{Op: api.Same, A: 1, B: 2}, api.Guard{Op: api.Other, A: 2, B: 1}, api.Guard{Op: api.Below, A: 0, B: 0})),
		// Neither the name nor the arcs count, and color sets may have equal names.
		Check(many, api.ColorTrans{Name: "T", Pre: []api.ColorArc{{Place: -1}}}),
	} {
		if e != api.OK {
			t.Errorf("case %d: %d", i, e)
		}
	}
}

func TestCheck(t *testing.T) {
	for i, c := range []struct {
		change func(s *[]api.ColorSet, t *api.ColorTrans)
		want   api.Errno
	}{
		{func(s *[]api.ColorSet, t *api.ColorTrans) { (*s)[1].Name = "" }, api.ErrName},
		{func(s *[]api.ColorSet, t *api.ColorTrans) { (*s)[1].Values = nil }, api.ErrSize},
		{func(s *[]api.ColorSet, t *api.ColorTrans) { (*s)[2].Values = []string{"a", "a"} }, api.ErrTwice},
		{func(s *[]api.ColorSet, t *api.ColorTrans) { (*s)[1].Values[2] = "Z" }, api.ErrName},
		{func(s *[]api.ColorSet, t *api.ColorTrans) { *s = nil }, api.ErrSize},
		{func(s *[]api.ColorSet, t *api.ColorTrans) {
			*s = slices.Repeat((*s)[:1], api.MaxTypes+1)
		}, api.ErrSize},
		// Errors of color sets come before that of their number.
		{func(s *[]api.ColorSet, t *api.ColorTrans) {
			*s = append(slices.Repeat((*s)[:1], api.MaxTypes), api.ColorSet{})
		}, api.ErrName},
		{func(s *[]api.ColorSet, t *api.ColorTrans) { t.Vars = make([]api.Var, api.MaxVars+1) }, api.ErrSize},
		{func(s *[]api.ColorSet, t *api.ColorTrans) { t.Vars[2].Name = "W" }, api.ErrName},
		{func(s *[]api.ColorSet, t *api.ColorTrans) { t.Vars[2] = api.Var{Name: "", Set: 9} }, api.ErrName},
		{func(s *[]api.ColorSet, t *api.ColorTrans) { t.Vars[3].Name = "u" }, api.ErrTwice},
		{func(s *[]api.ColorSet, t *api.ColorTrans) { t.Vars[3] = api.Var{Name: "u", Set: -1} }, api.ErrTwice},
		{func(s *[]api.ColorSet, t *api.ColorTrans) { t.Vars[0].Set = -1 }, api.ErrRange},
		{func(s *[]api.ColorSet, t *api.ColorTrans) { t.Vars[0].Set = 3 }, api.ErrRange},
		{func(s *[]api.ColorSet, t *api.ColorTrans) { t.Vars[0].Set, t.Vars[1].Name = 3, "" }, api.ErrRange},
		{func(s *[]api.ColorSet, t *api.ColorTrans) { t.Vars[0].Set, t.Guards[0].Op = 3, 9 }, api.ErrRange},
		{func(s *[]api.ColorSet, t *api.ColorTrans) { t.Guards[1].Op = 0 }, api.ErrKind},
		{func(s *[]api.ColorSet, t *api.ColorTrans) { t.Guards[1] = api.Guard{Op: 4, A: -1, B: 0} }, api.ErrKind},
		{func(s *[]api.ColorSet, t *api.ColorTrans) { t.Guards[1].Op = math.MinInt }, api.ErrKind},
		{func(s *[]api.ColorSet, t *api.ColorTrans) { t.Guards[1].A = -1 }, api.ErrRange},
		{func(s *[]api.ColorSet, t *api.ColorTrans) { t.Guards[1].A = 4 }, api.ErrRange},
		{func(s *[]api.ColorSet, t *api.ColorTrans) { t.Guards[1].B = -1 }, api.ErrRange},
		{func(s *[]api.ColorSet, t *api.ColorTrans) { t.Guards[1].B = 4 }, api.ErrRange},
		{func(s *[]api.ColorSet, t *api.ColorTrans) { t.Guards[1].B = 0 }, api.ErrType},
		{func(s *[]api.ColorSet, t *api.ColorTrans) { t.Guards[0].B, t.Guards[1].Op = 0, 9 }, api.ErrType},
		{func(s *[]api.ColorSet, t *api.ColorTrans) { t.Vars = nil }, api.ErrRange},
	} {
		s, tr := sets(), trans(api.Guard{Op: api.Same, A: 1, B: 2}, api.Guard{Op: api.Below, A: 1, B: 2})
		c.change(&s, &tr)
		if e := Check(s, tr); e != c.want {
			t.Errorf("case %d: %d, want %d", i, e, c.want)
		}
		if len(All(s, tr)) != 0 || Holds(s, tr, []int{0, 0, 0, 0}) || Holds(s, tr, nil) || Text(s, tr, []int{0, 0, 0, 0}) != "" {
			t.Errorf("case %d has bindings", i)
		}
		if e := CheckTerms(s, tr, -1, nil); e != c.want {
			t.Errorf("CheckTerms of case %d: %d, want %d", i, e, c.want)
		}
		if m, e := Eval(s, tr, -1, nil, nil); len(m) != 0 || e != c.want {
			t.Errorf("Eval of case %d: %v %d, want %d", i, m, e, c.want)
		}
	}
}

func TestHolds(t *testing.T) {
	for _, c := range []struct {
		op                    int
		below, equal, greater bool
	}{{api.Same, false, true, false}, {api.Other, true, false, true}, {api.Below, true, false, false}} {
		tr := trans(api.Guard{Op: c.op, A: 1, B: 2})
		if Holds(sets(), tr, []int{1, 0, 2, 0}) != c.below || Holds(sets(), tr, []int{1, 2, 2, 0}) != c.equal || Holds(sets(), tr, []int{1, 2, 1, 0}) != c.greater {
			t.Errorf("guard %d", c.op)
		}
	}
	both := trans(api.Guard{Op: api.Below, A: 1, B: 2}, api.Guard{Op: api.Below, A: 2, B: 1})
	if Holds(sets(), both, []int{0, 0, 1, 0}) || Holds(sets(), both, []int{0, 1, 0, 0}) {
		t.Error("all guards have to hold")
	}
	for _, b := range [][]int{nil, {0, 0, 0}, {0, 0, 0, 0, 0}, {-1, 0, 0, 0}, {2, 0, 0, 0}, {0, 0, 3, 0}, {0, 0, 0, 1}, {math.MaxInt, 0, 0, 0}} {
		if Holds(sets(), trans(), b) {
			t.Errorf("%v is no binding", b)
		}
	}
	if !Holds(sets(), trans(), []int{1, 2, 2, 0}) || !Holds(sets(), api.ColorTrans{}, nil) || Holds(sets(), api.ColorTrans{}, []int{0}) {
		t.Error("bindings without guards")
	}
}

func TestAll(t *testing.T) {
	s := []api.ColorSet{{Name: "c", Values: []string{"a", "b", "c"}}}
	tr := api.ColorTrans{Vars: []api.Var{{Name: "x"}, {Name: "y"}}, Guards: []api.Guard{{Op: api.Below, A: 0, B: 1}}}
	if got := All(s, tr); !same(got, [][]int{{0, 1}, {0, 2}, {1, 2}}) {
		t.Error(got)
	}
	tr.Guards = []api.Guard{{Op: api.Below, A: 0, B: 0}}
	if got := All(s, tr); len(got) != 0 {
		t.Error(got)
	}
	if got := All(s, api.ColorTrans{}); !same(got, [][]int{{}}) {
		t.Error("without variables there is one binding", got)
	}
}

func TestAllAgreesWithHolds(t *testing.T) {
	source := rand.New(rand.NewSource(40))
	for range 100 {
		tr := trans()
		tr.Vars = tr.Vars[:source.Intn(5)]
		for len(tr.Vars) > 0 && source.Intn(3) > 0 {
			a, b := source.Intn(len(tr.Vars)), source.Intn(len(tr.Vars))
			if tr.Vars[a].Set == tr.Vars[b].Set {
				tr.Guards = append(tr.Guards, api.Guard{Op: 1 + source.Intn(3), A: a, B: b})
			}
		}
		var want [][]int
		for i := range 2 * 3 * 3 {
			b := []int{i / 9, i / 3 % 3, i % 3, 0}[:len(tr.Vars)]
			if (len(want) == 0 || !slices.Equal(want[len(want)-1], b)) && Holds(sets(), tr, b) {
				want = append(want, b)
			}
		}
		if got := All(sets(), tr); !same(got, slices.CompactFunc(want, slices.Equal[[]int])) {
			t.Fatalf("All of %v is %v, want %v", tr, got, want)
		}
	}
}

func TestNumberOfBindings(t *testing.T) {
	if got := All(sets(), trans()); len(got) != 2*3*3*1 {
		t.Error(len(got))
	}
	c := api.ColorSet{Name: "c"}
	for i := range api.MaxColors {
		c.Values = append(c.Values, "v"+strconv.Itoa(i))
	}
	tr := api.ColorTrans{Vars: []api.Var{{Name: "a"}, {Name: "b"}, {Name: "c"}, {Name: "d"}}}
	got := All([]api.ColorSet{c}, tr)
	if len(got) != 12*12*12*12 || !slices.IsSortedFunc(got, slices.Compare[[]int]) {
		t.Error(len(got))
	}
	got[0][0] = 9
	if got[1][0] != 0 || All([]api.ColorSet{c}, tr)[0][0] != 0 {
		t.Error("bindings share memory")
	}
}

func TestCheckTerms(t *testing.T) {
	tr := trans()
	for _, c := range []struct {
		set   int
		terms []api.Term
		want  api.Errno
	}{
		{1, nil, api.OK},
		{1, []api.Term{{W: 1, Kind: api.Const, N: 2}, {W: 99, Kind: api.Value, N: 1}, {W: 1, Kind: api.Succ, N: 2}, {W: 1, Kind: api.Pred, N: 2}, {W: 1, Kind: api.All}}, api.OK},
		{-1, []api.Term{{}}, api.ErrRange},
		{3, nil, api.ErrRange},
		{math.MaxInt, nil, api.ErrRange},
		{1, []api.Term{{W: 0, Kind: api.All}}, api.ErrWeight},
		{1, []api.Term{{W: 100, Kind: api.All}}, api.ErrWeight},
		{1, []api.Term{{W: -1, Kind: 0}}, api.ErrWeight},
		{1, []api.Term{{W: 1, Kind: 0}}, api.ErrKind},
		{1, []api.Term{{W: 1, Kind: 6, N: -1}}, api.ErrKind},
		{1, []api.Term{{W: 1, Kind: api.Const, N: 3}}, api.ErrRange},
		{1, []api.Term{{W: 1, Kind: api.Const, N: -1}}, api.ErrRange},
		{2, []api.Term{{W: 1, Kind: api.Const, N: 1}}, api.ErrRange},
		{1, []api.Term{{W: 1, Kind: api.Value, N: 4}}, api.ErrRange},
		{1, []api.Term{{W: 1, Kind: api.Succ, N: -1}}, api.ErrRange},
		{1, []api.Term{{W: 1, Kind: api.Pred, N: 4}}, api.ErrRange},
		{1, []api.Term{{W: 1, Kind: api.All, N: 1}}, api.ErrRange},
		{1, []api.Term{{W: 1, Kind: api.All, N: -1}}, api.ErrRange},
		{1, []api.Term{{W: 1, Kind: api.Value, N: 0}}, api.ErrType},
		{0, []api.Term{{W: 1, Kind: api.Succ, N: 1}}, api.ErrType},
		{2, []api.Term{{W: 1, Kind: api.Pred, N: 2}}, api.ErrType},
		{1, []api.Term{{W: 1, Kind: api.Value, N: 0}, {W: 0}}, api.ErrType},
		{1, []api.Term{{W: 1, Kind: api.All}, {W: 0}}, api.ErrWeight},
	} {
		if e := CheckTerms(sets(), tr, c.set, c.terms); e != c.want {
			t.Errorf("CheckTerms(%d, %v) is %d, want %d", c.set, c.terms, e, c.want)
		}
		// The error of the terms comes before that of the binding.
		if m, e := Eval(sets(), tr, c.set, c.terms, nil); c.want != api.OK && (len(m) != 0 || e != c.want) {
			t.Errorf("Eval(%d, %v) is %v %d, want %d", c.set, c.terms, m, e, c.want)
		}
	}
}

func TestEval(t *testing.T) {
	// The guard does not hold for this binding, but guards are not considered.
	tr := trans(api.Guard{Op: api.Same, A: 1, B: 2})
	b := []int{1, 0, 2, 0}
	for _, c := range []struct {
		set   int
		terms []api.Term
		want  []int
	}{
		{1, nil, []int{0, 0, 0}},
		{1, []api.Term{{W: 4, Kind: api.Const, N: 1}}, []int{0, 4, 0}},
		{1, []api.Term{{W: 2, Kind: api.Value, N: 1}}, []int{2, 0, 0}},
		{1, []api.Term{{W: 1, Kind: api.Value, N: 2}}, []int{0, 0, 1}},
		{1, []api.Term{{W: 1, Kind: api.Succ, N: 1}}, []int{0, 1, 0}},
		{1, []api.Term{{W: 3, Kind: api.Succ, N: 2}}, []int{3, 0, 0}},
		{1, []api.Term{{W: 1, Kind: api.Pred, N: 1}}, []int{0, 0, 1}},
		{1, []api.Term{{W: 1, Kind: api.Pred, N: 2}}, []int{0, 1, 0}},
		{1, []api.Term{{W: 7, Kind: api.All}}, []int{7, 7, 7}},
		{2, []api.Term{{W: 1, Kind: api.Succ, N: 3}, {W: 1, Kind: api.Pred, N: 3}, {W: 1, Kind: api.All}}, []int{3}},
		{0, []api.Term{{W: 1, Kind: api.Succ, N: 0}, {W: 1, Kind: api.Pred, N: 0}, {W: 5, Kind: api.Value, N: 0}}, []int{2, 5}},
		{1, []api.Term{{W: 1, Kind: api.All}, {W: 2, Kind: api.Const, N: 0}, {W: 99, Kind: api.Value, N: 2}}, []int{3, 1, 100}},
	} {
		if m, e := Eval(sets(), tr, c.set, c.terms, b); !slices.Equal(m, c.want) || e != api.OK {
			t.Errorf("Eval(%d, %v) is %v %d", c.set, c.terms, m, e)
		}
	}
}

func TestEvalErrors(t *testing.T) {
	for _, b := range [][]int{nil, {0, 0, 0}, {0, 0, 0, 0, 0}, {2, 0, 0, 0}, {0, -1, 0, 0}, {0, 0, 0, math.MinInt}} {
		if m, e := Eval(sets(), trans(), 0, nil, b); len(m) != 0 || e != api.ErrState {
			t.Errorf("Eval for %v is %v %d", b, m, e)
		}
	}
	b := []int{0, 0, 0, 0}
	// 99 is contained 10591 times in 2^20, and 67 is left.
	terms := slices.Repeat([]api.Term{{W: 99, Kind: api.Value, N: 1}}, 10591)
	terms = append(terms, api.Term{W: 67, Kind: api.Const, N: 0})
	if m, e := Eval(sets(), trans(), 1, terms, b); !slices.Equal(m, []int{api.MaxTokens, 0, 0}) || e != api.OK {
		t.Errorf("the greatest number: %v %d", m, e)
	}
	if m, e := Eval(sets(), trans(), 1, append(terms, api.Term{W: 1, Kind: api.All}), b); len(m) != 0 || e != api.ErrOver {
		t.Errorf("more than the greatest number: %v %d", m, e)
	}
	if m, e := Eval(sets(), trans(), 1, append(terms, api.Term{W: 1, Kind: api.Const, N: 1}), b); !slices.Equal(m, []int{api.MaxTokens, 1, 0}) || e != api.OK {
		t.Errorf("another color: %v %d", m, e)
	}
}

func TestEvalIsAdditive(t *testing.T) {
	source := rand.New(rand.NewSource(41))
	random := func() []api.Term {
		var terms []api.Term
		for range source.Intn(4) {
			term := api.Term{W: 1 + source.Intn(9), Kind: 1 + source.Intn(5)}
			if term.Kind != api.All {
				term.N = 1 + source.Intn(2)
			}
			terms = append(terms, term)
		}
		return terms
	}
	for range 500 {
		first, second, b := random(), random(), []int{source.Intn(2), source.Intn(3), source.Intn(3), 0}
		x, _ := Eval(sets(), trans(), 1, first, b)
		y, _ := Eval(sets(), trans(), 1, second, b)
		sum, e := Eval(sets(), trans(), 1, slices.Concat(first, second), b)
		for i := range sum {
			if e != api.OK || sum[i] != x[i]+y[i] {
				t.Fatalf("Eval of %v and %v", first, second)
			}
		}
		for _, term := range first {
			m, _ := Eval(sets(), trans(), 1, []api.Term{term}, b)
			slices.Sort(m)
			if term.Kind != api.All && !slices.Equal(m, []int{0, 0, term.W}) {
				t.Fatalf("Eval of %v is %v", term, m)
			}
		}
	}
}

func TestText(t *testing.T) {
	if got := Text(sets(), trans(), []int{1, 0, 2, 0}); got != "u=b,v=x,w=z,k=dot" {
		t.Error(got)
	}
	if got := Text(sets(), trans(api.Guard{Op: api.Same, A: 1, B: 2}), []int{0, 0, 2, 0}); got != "u=a,v=x,w=z,k=dot" {
		t.Error("guards are not considered", got)
	}
	if got := Text(sets(), api.ColorTrans{}, nil); got != "-" {
		t.Error(got)
	}
	for _, b := range [][]int{nil, {0, 0, 0}, {0, 3, 0, 0}, {-1, 0, 0, 0}, {0, 0, 0, 0, 0}} {
		if got := Text(sets(), trans(), b); got != "" {
			t.Errorf("Text for %v is %q", b, got)
		}
	}
	if Text(sets(), api.ColorTrans{}, []int{0}) != "" || Text(nil, api.ColorTrans{}, nil) != "" {
		t.Error("texts of no bindings")
	}
	long := strings.Repeat("n", api.MaxName)
	if got := Text([]api.ColorSet{{Name: "c", Values: []string{long}}}, api.ColorTrans{Vars: []api.Var{{Name: long}}}, []int{0}); got != long+"="+long {
		t.Error(got)
	}
}
