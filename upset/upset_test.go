package upset

import (
	"math/rand"
	"slices"
	"testing"

	"petrinet/api"
	"petrinet/marking"
)

func same(a, b [][]int) bool {
	return slices.EqualFunc(a, b, slices.Equal[[]int])
}

func TestMake(t *testing.T) {
	full, over := make([]int, api.MaxPlaces), make([]int, api.MaxPlaces+1)
	for _, c := range []struct{ l, want [][]int }{
		{nil, nil},
		{[][]int{{1, 0}, {2, 0}, {0, 3}}, [][]int{{0, 3}, {1, 0}}},
		{[][]int{{2, 2}, {2, 2}}, [][]int{{2, 2}}},
		{[][]int{{5}, {3}, {4}}, [][]int{{3}}},
		{[][]int{{5}, {0}}, [][]int{{0}}},
		// The first usable element determines the length.
		{[][]int{{}, {-1}, {api.MaxTokens + 1}, over, {1, 1}, {0}, {0, 2}, {0, -1}}, [][]int{{0, 2}, {1, 1}}},
		{[][]int{full, {0}}, [][]int{full}},
		{[][]int{over, nil, {-1, 0}}, nil},
		{[][]int{{api.MaxTokens}}, [][]int{{api.MaxTokens}}},
	} {
		if got := Make(c.l); !same(got, c.want) {
			t.Errorf("Make of %v is %v", c.l, got)
		}
	}
}

func TestValid(t *testing.T) {
	for _, c := range []struct {
		u    [][]int
		n    int
		want bool
	}{
		{nil, 3, true},
		{[][]int{}, -1, true},
		{[][]int{{0, 3}, {1, 0}}, 2, true},
		{[][]int{{0, 3}, {1, 0}}, 3, false},
		{[][]int{{1, 0}, {0, 3}}, 2, false},
		{[][]int{{0, 3}, {0, 4}}, 2, false},
		{[][]int{{0, 3}, {0, 3}}, 2, false},
		{[][]int{{-1}}, 1, false},
		{[][]int{{}}, 0, false},
		{[][]int{{0}}, 1, true},
		{[][]int{{0}, {0, 0}}, 1, false},
		{[][]int{make([]int, api.MaxPlaces+1)}, api.MaxPlaces + 1, false},
	} {
		if Valid(c.u, c.n) != c.want {
			t.Errorf("Valid(%v, %d) is %t", c.u, c.n, !c.want)
		}
	}
}

func TestHas(t *testing.T) {
	u := [][]int{{3, 3}, {1, 0}, {-5, 0}, {0, 3}}
	for _, m := range [][]int{{1, 0}, {1, 9}, {0, 3}, {api.MaxTokens, api.MaxTokens}} {
		if !Has(u, m) {
			t.Errorf("%v is contained", m)
		}
	}
	for _, m := range [][]int{{0, 0}, {0, 2}, {}, {5}, {5, 5, 5}, {1, -1}, {api.MaxTokens + 1, 0}} {
		if Has(u, m) {
			t.Errorf("%v is not contained", m)
		}
	}
	if Has(nil, nil) || Has(nil, []int{0}) || Has([][]int{nil}, nil) {
		t.Error("sets without elements")
	}
}

func TestSubsetSame(t *testing.T) {
	small, great := [][]int{{2, 2}, {3, 1}}, [][]int{{1, 1}, {5, 5}}
	if !Subset(small, great) || Subset(great, small) || Same(small, great) || Same(great, small) {
		t.Error("a proper subset")
	}
	if !Subset(nil, small) || Subset(small, nil) || !Same(nil, nil) || !Same(nil, [][]int{{-1}, {}}) {
		t.Error("the empty set")
	}
	if !Same(great, [][]int{{9}, {1, 1}}[1:]) || !Same([][]int{{2, 1}, {1, 2}, {2, 2}}, [][]int{{1, 2}, {2, 1}}) {
		t.Error("the same set")
	}
	if Subset([][]int{{1}}, [][]int{{1, 1}}) || Subset([][]int{{1, 1}, {0, 5}}, [][]int{{1, 1}}) {
		t.Error("other sets")
	}
}

func TestUnionMeet(t *testing.T) {
	if got := Meet([][]int{{1, 0}}, [][]int{{0, 2}}); !same(got, [][]int{{1, 2}}) {
		t.Error(got)
	}
	if got := Union([][]int{{1, 0}}, [][]int{{0, 2}}); !same(got, [][]int{{0, 2}, {1, 0}}) {
		t.Error(got)
	}
	if got := Meet([][]int{{1}}, [][]int{{1, 1}}); len(got) != 0 {
		t.Error("other lengths", got)
	}
	// The union has the length of the first usable element of a, or else of b.
	if got := Union([][]int{{1}}, [][]int{{1, 1}, {0}}); !same(got, [][]int{{0}}) {
		t.Error(got)
	}
	if got := Union([][]int{{-1}}, [][]int{{1, 1}, {0}}); !same(got, [][]int{{1, 1}}) {
		t.Error(got)
	}
	// Meet takes the length of each argument by itself.
	if got := Meet([][]int{{-1}, {2, 0}, {7}}, [][]int{{}, {0, 3}}); !same(got, [][]int{{2, 3}}) {
		t.Error(got)
	}
	if got := Meet([][]int{{0, 2}, {2, 0}}, [][]int{{1, 1}, {0, 0}}); !same(got, [][]int{{0, 2}, {2, 0}}) {
		t.Error(got)
	}
	if len(Meet(nil, [][]int{{1}})) != 0 || len(Meet([][]int{{1}}, nil)) != 0 || len(Union(nil, nil)) != 0 {
		t.Error("empty sets")
	}
}

func TestSetLaws(t *testing.T) {
	source := rand.New(rand.NewSource(21))
	random := func() [][]int {
		var l [][]int
		for range 1 + source.Intn(5) {
			l = append(l, []int{source.Intn(4), source.Intn(4), source.Intn(2)})
		}
		return l
	}
	for range 300 {
		a, b := random(), random()
		union, meet := Union(a, b), Meet(a, b)
		if !same(Make(Make(a)), Make(a)) || !Valid(union, 3) || !Valid(meet, 3) {
			t.Fatalf("sets of %v and %v", a, b)
		}
		subset := true
		for i := range 5 * 5 * 3 {
			m := []int{i % 5, i / 5 % 5, i / 25}
			inA := slices.ContainsFunc(a, func(e []int) bool { return marking.Leq(e, m) })
			inB := slices.ContainsFunc(b, func(e []int) bool { return marking.Leq(e, m) })
			if Has(a, m) != inA || Has(union, m) != (inA || inB) || Has(meet, m) != (inA && inB) {
				t.Fatalf("%v in %v and %v", m, a, b)
			}
			subset = subset && (!inA || inB)
		}
		if Subset(a, b) != subset || Same(a, b) != (Subset(a, b) && Subset(b, a)) {
			t.Fatalf("Subset of %v and %v is %t", a, b, !subset)
		}
	}
}

func TestArgumentsAreKeptAndResultsNew(t *testing.T) {
	a, b := [][]int{{2, 0}, {0, 2}}, [][]int{{1, 1}}
	for _, got := range [][][]int{Make(a), Union(a, b), Meet(a, a), Make(b)} {
		for _, m := range got {
			m[0] = 77
		}
	}
	Has(a, []int{0, 0})
	if !same(a, [][]int{{2, 0}, {0, 2}}) || !same(b, [][]int{{1, 1}}) {
		t.Error("arguments changed", a, b)
	}
}
