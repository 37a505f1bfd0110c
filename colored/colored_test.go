package colored

import (
	"math"
	"slices"
	"strconv"
	"testing"

	"petrinet/api"
	"petrinet/binding"
	"petrinet/nettest"
)

// sample has two color sets, and a transition that moves x from p to q and takes y from r, where y comes before z.
func sample() api.ColorNet {
	return api.ColorNet{
		Name: "n",
		Sets: []api.ColorSet{{Name: "c", Values: []string{"a", "b"}}, {Name: "d", Values: []string{"k", "l", "m"}}},
		Places: []api.ColorPlace{
			{Name: "p", Set: 0, Init: []int{1, 2}},
			{Name: "q", Set: 0, Init: []int{0, 0}},
			{Name: "r", Set: 1, Init: []int{0, 1, 1}},
		},
		Trans: []api.ColorTrans{
			{
				Name:   "t",
				Vars:   []api.Var{{Name: "x", Set: 0}, {Name: "y", Set: 1}, {Name: "z", Set: 1}},
				Guards: []api.Guard{{Op: api.Below, A: 1, B: 2}},
				Pre:    []api.ColorArc{{Place: 0, Terms: []api.Term{{W: 1, Kind: api.Value, N: 0}}}, {Place: 2, Terms: []api.Term{{W: 1, Kind: api.Value, N: 1}}}},
				Post:   []api.ColorArc{{Place: 1, Terms: []api.Term{{W: 2, Kind: api.Succ, N: 0}}}, {Place: 2, Terms: []api.Term{{W: 1, Kind: api.Value, N: 2}}}},
			},
			{Name: "u", Pre: []api.ColorArc{{Place: 1, Terms: []api.Term{{W: 1, Kind: api.All}}}}, Post: []api.ColorArc{{Place: 0, Terms: []api.Term{{W: 3, Kind: api.Const, N: 1}}}}},
		},
	}
}

func same(a, b [][]int) bool {
	return slices.EqualFunc(a, b, slices.Equal[[]int])
}

var indices = []int{-1, 2, math.MinInt, math.MaxInt}

func TestCheck(t *testing.T) {
	if f := Check(sample()); f != (api.Fault{}) {
		t.Fatal(f)
	}
	var places []api.ColorPlace
	var trans []api.ColorTrans
	var sets []api.ColorSet
	for i := range api.MaxPlaces + 1 {
		places = append(places, api.ColorPlace{Name: "p" + strconv.Itoa(i), Init: []int{0, 0}})
		trans = append(trans, api.ColorTrans{Name: "t" + strconv.Itoa(i)})
	}
	for i := range api.MaxTypes {
		sets = append(sets, api.ColorSet{Name: "c" + strconv.Itoa(i), Values: []string{"a", "b", "c"}[:2+i%2]})
	}
	for i, c := range []struct {
		change func(c *api.ColorNet)
		errno  api.Errno
		at     int
	}{
		{func(c *api.ColorNet) { c.Name, c.Sets = "N", nil }, api.ErrName, 0},
		{func(c *api.ColorNet) { c.Sets = nil }, api.ErrSize, 0},
		{func(c *api.ColorNet) { c.Sets = make([]api.ColorSet, 9) }, api.ErrSize, 0},
		{func(c *api.ColorNet) { c.Sets = make([]api.ColorSet, 8) }, api.ErrName, 0},
		{func(c *api.ColorNet) { c.Places, c.Sets[0].Name = nil, "" }, api.ErrSize, 0},
		{func(c *api.ColorNet) { c.Places = make([]api.ColorPlace, 25) }, api.ErrSize, 0},
		{func(c *api.ColorNet) { c.Trans = make([]api.ColorTrans, 25) }, api.ErrSize, 0},
		{func(c *api.ColorNet) { c.Places, c.Trans = places[:24], nil }, api.OK, 0},
		{func(c *api.ColorNet) { c.Trans = nil }, api.OK, 0},
		{func(c *api.ColorNet) { c.Trans = trans[:24] }, api.OK, 0},
		{func(c *api.ColorNet) { c.Trans, c.Name = trans, "n" }, api.ErrSize, 0},
		{func(c *api.ColorNet) { c.Sets = sets }, api.OK, 0},
		{func(c *api.ColorNet) { c.Sets[1].Name = "D" }, api.ErrName, 1},
		{func(c *api.ColorNet) { c.Sets[1].Values = nil }, api.ErrSize, 1},
		{func(c *api.ColorNet) { c.Sets[1] = api.ColorSet{Name: "c", Values: []string{"a", "a"}} }, api.ErrTwice, 1},
		{func(c *api.ColorNet) { c.Sets[1] = api.ColorSet{Name: "c"} }, api.ErrSize, 1},
		{func(c *api.ColorNet) { c.Sets[1].Name = "c" }, api.ErrTwice, 1},
		{func(c *api.ColorNet) { c.Sets[1].Name, c.Places[0].Name = "c", "" }, api.ErrTwice, 1},
		{func(c *api.ColorNet) { c.Sets[1].Name = "p" }, api.OK, 0},
		{func(c *api.ColorNet) { c.Places[0].Name = "0" }, api.ErrName, 2},
		{func(c *api.ColorNet) { c.Places[1].Name, c.Places[1].Set = "p", -1 }, api.ErrTwice, 3},
		{func(c *api.ColorNet) { c.Places[1].Set, c.Places[1].Init = -1, nil }, api.ErrRange, 3},
		{func(c *api.ColorNet) { c.Places[2].Set = 2 }, api.ErrRange, 4},
		{func(c *api.ColorNet) { c.Places[2].Set = math.MaxInt }, api.ErrRange, 4},
		{func(c *api.ColorNet) { c.Places[2].Init = []int{0, 1} }, api.ErrInit, 4},
		{func(c *api.ColorNet) { c.Places[2].Init = nil }, api.ErrInit, 4},
		{func(c *api.ColorNet) { c.Places[2].Init = []int{0, 1, 1, 0} }, api.ErrInit, 4},
		{func(c *api.ColorNet) { c.Places[2].Init[1] = -1 }, api.ErrInit, 4},
		{func(c *api.ColorNet) { c.Places[2].Init[1] = api.MaxTokens }, api.OK, 0},
		{func(c *api.ColorNet) { c.Places[2].Init[1] = api.MaxTokens + 1 }, api.ErrInit, 4},
		{func(c *api.ColorNet) { c.Trans[0].Name, c.Trans[0].Vars = "", nil }, api.ErrName, 5},
		{func(c *api.ColorNet) { c.Trans[0].Name, c.Trans[0].Vars = "r", nil }, api.ErrTwice, 5},
		{func(c *api.ColorNet) { c.Trans[1].Name, c.Trans[1].Pre[0].Place = "t", 9 }, api.ErrTwice, 6},
		{func(c *api.ColorNet) { c.Trans[0].Name = "c" }, api.OK, 0},
		{func(c *api.ColorNet) { c.Trans[0].Vars[1].Name, c.Trans[0].Pre[0].Place = "x", 9 }, api.ErrTwice, 5},
		{func(c *api.ColorNet) { c.Trans[0].Vars = make([]api.Var, 5) }, api.ErrSize, 5},
		{func(c *api.ColorNet) { c.Trans[0].Guards[0].Op = 4 }, api.ErrKind, 5},
		{func(c *api.ColorNet) { c.Trans[0].Guards[0].B = 0 }, api.ErrType, 5},
		{func(c *api.ColorNet) { c.Trans[0].Pre[0].Place, c.Trans[0].Pre[0].Terms = -1, nil }, api.ErrNone, 5},
		{func(c *api.ColorNet) { c.Trans[0].Post[1].Place = 3 }, api.ErrNone, 5},
		{func(c *api.ColorNet) { c.Trans[0].Pre[1] = api.ColorArc{Place: 0} }, api.ErrOrder, 5},
		{func(c *api.ColorNet) { c.Trans[0].Post[1].Place = 0 }, api.ErrOrder, 5},
		{func(c *api.ColorNet) { c.Trans[0].Post[0].Place = 0 }, api.OK, 0},
		{func(c *api.ColorNet) { c.Trans[0].Post[1].Terms = nil }, api.ErrEmpty, 5},
		{func(c *api.ColorNet) { c.Trans[1].Pre[0].Terms = nil }, api.ErrEmpty, 6},
		{func(c *api.ColorNet) { c.Trans[0].Post[0].Place, c.Trans[0].Post[1].Place = 2, 1 }, api.ErrType, 5},
		{func(c *api.ColorNet) { c.Trans[0].Pre[0].Terms[0].W, c.Trans[0].Pre[1].Terms = 0, nil }, api.ErrWeight, 5},
		{func(c *api.ColorNet) { c.Trans[0].Pre[0].Terms[0].Kind = 6 }, api.ErrKind, 5},
		{func(c *api.ColorNet) { c.Trans[0].Pre[0].Terms[0].N = 3 }, api.ErrRange, 5},
		{func(c *api.ColorNet) { c.Trans[0].Pre[0].Terms[0].N, c.Trans[0].Post[0].Terms[0].W = 1, 0 }, api.ErrType, 5},
		{func(c *api.ColorNet) { c.Trans[1].Post[0].Terms[0].N = 2 }, api.ErrRange, 6},
	} {
		net := sample()
		c.change(&net)
		if f := Check(net); f != (api.Fault{Errno: c.errno, At: c.at}) {
			t.Errorf("case %d: %v, want %d at %d", i, f, c.errno, c.at)
		}
		if c.errno == api.OK {
			continue
		}
		m := [][]int{{9, 9}, {9, 9}, {9, 9, 9}}
		if len(Initial(net)) != 0 || len(Total(net, m)) != 0 || Enabled(net, m, 1, nil) || len(Bindings(net, m, 1)) != 0 {
			t.Errorf("case %d: results of a net that is not valid", i)
		}
		if l, e := Fire(net, nil, 1, nil); len(l) != 0 || e != c.errno {
			t.Errorf("case %d: Fire %v %d", i, l, e)
		}
		if l, all, e := Explore(net, 0); len(l) != 0 || all || e != c.errno {
			t.Errorf("case %d: Explore %v %t %d", i, l, all, e)
		}
	}
}

func TestInitialFlatTotal(t *testing.T) {
	c := sample()
	m := Initial(c)
	if !same(m, [][]int{{1, 2}, {0, 0}, {0, 1, 1}}) || !slices.Equal(Total(c, m), []int{3, 0, 2}) || !slices.Equal(Flat(m), []int{1, 2, 0, 0, 0, 1, 1}) {
		t.Error(m, Total(c, m), Flat(m))
	}
	m[0][0] = 9
	if c.Places[0].Init[0] != 1 {
		t.Error("the result shares memory with the argument")
	}
	if l := Flat([][]int{nil, {-5}, {}, {1, math.MaxInt}}); !slices.Equal(l, []int{-5, 1, math.MaxInt}) || len(Flat(nil)) != 0 {
		t.Error(l)
	}
	single := [][]int{{4, 5}}
	Flat(single)[0] = 9
	if single[0][0] != 4 {
		t.Error("the result shares memory with the argument")
	}
	if l := Total(c, [][]int{{api.MaxTokens, api.MaxTokens}, {0, 0}, {1, 2, 3}}); !slices.Equal(l, []int{2 * api.MaxTokens, 0, 6}) {
		t.Error(l)
	}
}

// noMarkings are no markings of the sample.
var noMarkings = [][][]int{nil, {{1, 2}, {0, 0}}, {{1, 2}, {0, 0}, {0, 1, 1}, {0, 0}}, {{1, 2}, {0}, {0, 1, 1}}, {{1, 2}, {0, 0, 0}, {0, 1, 1}}, {{1, 2}, {0, -1}, {0, 1, 1}}, {{1, api.MaxTokens + 1}, {0, 0}, {0, 1, 1}}, {{1, 2}, nil, {0, 1, 1}}}

func TestNoMarkings(t *testing.T) {
	c := sample()
	for _, m := range noMarkings {
		if len(Total(c, m)) != 0 || Enabled(c, m, 0, []int{0, 1, 2}) || len(Bindings(c, m, 0)) != 0 {
			t.Error("a marking", m)
		}
		if l, e := Fire(c, m, 9, nil); len(l) != 0 || e != api.ErrSize {
			t.Error(m, l, e)
		}
	}
}

func TestEnabledBindings(t *testing.T) {
	c := sample()
	for _, x := range []struct {
		m      [][]int
		first  [][]int
		second bool
	}{
		{Initial(c), [][]int{{0, 1, 2}, {1, 1, 2}}, false},
		{[][]int{{1, 0}, {1, 1}, {1, 1, 1}}, [][]int{{0, 0, 1}, {0, 0, 2}, {0, 1, 2}}, true},
		{[][]int{{0, 0}, {2, 0}, {1, 1, 1}}, nil, false},
		{[][]int{{5, 5}, {0, 2}, {0, 0, 7}}, nil, false},
	} {
		if l := Bindings(c, x.m, 0); !same(l, x.first) {
			t.Error(x.m, l)
		}
		for b := range every([]int{2, 3, 3}) {
			want := slices.ContainsFunc(x.first, func(l []int) bool { return slices.Equal(l, b) })
			if Enabled(c, x.m, 0, b) != want {
				t.Error("Enabled", x.m, b)
			}
			if m, e := Fire(c, x.m, 0, b); (e == api.OK) != want || (e == api.ErrDead) == want || !want && len(m) != 0 {
				t.Error("Fire", x.m, b, m, e)
			}
		}
		// Without variables there is one binding, the empty one.
		if l := Bindings(c, x.m, 1); (len(l) == 1) != x.second || x.second && len(l[0]) != 0 || Enabled(c, x.m, 1, nil) != x.second {
			t.Error(x.m, l)
		}
	}
	m := [][]int{{9, 9}, {9, 9}, {9, 9, 9}}
	for _, b := range [][]int{nil, {0, 1}, {0, 1, 2, 0}, {2, 1, 2}, {0, -1, 2}, {0, 1, 3}, {0, 2, 1}, {0, 1, 1}} {
		if Enabled(c, m, 0, b) {
			t.Error("a binding", b)
		}
		if l, e := Fire(c, m, 0, b); len(l) != 0 || e != api.ErrDead {
			t.Error(b, l, e)
		}
	}
	for _, i := range indices {
		if Enabled(c, m, i, nil) || len(Bindings(c, m, i)) != 0 {
			t.Error("a transition that does not exist", i)
		}
		if l, e := Fire(c, m, i, nil); len(l) != 0 || e != api.ErrRange {
			t.Error(i, l, e)
		}
	}
}

// every yields all lists with numbers below the given ones.
func every(below []int) func(yield func([]int) bool) {
	return func(yield func([]int) bool) {
		b := make([]int, len(below))
		for {
			if !yield(slices.Clone(b)) {
				return
			}
			i := len(b) - 1
			for ; i >= 0; i-- {
				if b[i]++; b[i] < below[i] {
					break
				}
				b[i] = 0
			}
			if i < 0 {
				return
			}
		}
	}
}

func TestFire(t *testing.T) {
	c := sample()
	m := Initial(c)
	l, e := Fire(c, m, 0, []int{1, 1, 2})
	if !same(l, [][]int{{1, 1}, {2, 0}, {0, 0, 2}}) || e != api.OK || !same(m, Initial(c)) {
		t.Error(l, e)
	}
	for _, tokens := range l {
		clear(tokens)
	}
	if !same(m, Initial(c)) {
		t.Error("the result shares memory with the argument")
	}
	if l, e := Fire(c, [][]int{{0, 0}, {1, 4}, {0, 0, 0}}, 1, nil); !same(l, [][]int{{0, 3}, {0, 3}, {0, 0, 0}}) || e != api.OK {
		t.Error(l, e)
	}
	full := [][]int{{1, 0}, {0, api.MaxTokens - 2}, {1, api.MaxTokens, 0}}
	if l, e := Fire(c, full, 0, []int{0, 0, 2}); !same(l, [][]int{{0, 0}, {0, api.MaxTokens}, {0, api.MaxTokens, 1}}) || e != api.OK {
		t.Error(l, e)
	}
	if l, e := Fire(c, full, 0, []int{0, 0, 1}); len(l) != 0 || e != api.ErrOver {
		t.Error(l, e)
	}
	full[1][1]++
	if l, e := Fire(c, full, 0, []int{0, 0, 2}); len(l) != 0 || e != api.ErrOver {
		t.Error(l, e)
	}
	// What is taken from a place makes room for what is put on it.
	loop := sample()
	loop.Trans[1].Post[0] = api.ColorArc{Place: 1, Terms: []api.Term{{W: 1, Kind: api.Const, N: 0}}}
	if l, e := Fire(loop, [][]int{{0, 0}, {api.MaxTokens, 1}, {0, 0, 0}}, 1, nil); !same(l, [][]int{{0, 0}, {api.MaxTokens, 0}, {0, 0, 0}}) || e != api.OK {
		t.Error(l, e)
	}
}

// manyTerms are terms whose sum is greater than MaxTokens.
func manyTerms() []api.Term {
	return slices.Repeat([]api.Term{{W: 99, Kind: api.Const, N: 0}}, api.MaxTokens/99+1)
}

func TestArcsWithoutMultiset(t *testing.T) {
	m := [][]int{{api.MaxTokens, api.MaxTokens}, {5, 5}, {1, 1, 1}}
	c := sample()
	c.Trans[1].Pre[0].Terms = manyTerms()
	if l, e := Fire(c, m, 1, nil); Enabled(c, m, 1, nil) || len(Bindings(c, m, 1)) != 0 || len(l) != 0 || e != api.ErrDead {
		t.Error("an arc of Pre", l, e)
	}
	c = sample()
	c.Trans[1].Post[0].Terms = manyTerms()
	m[0] = []int{0, 0}
	if l, e := Fire(c, m, 1, nil); !Enabled(c, m, 1, nil) || len(Bindings(c, m, 1)) != 1 || len(l) != 0 || e != api.ErrOver {
		t.Error("an arc of Post", l, e)
	}
	c.Places[1].Init = []int{1, 1}
	if l, all, e := Explore(c, 10); len(l) != 0 || all || e != api.ErrOver {
		t.Error("an arc of Post", l, all, e)
	}
}

func TestExplore(t *testing.T) {
	c := sample()
	want := [][][]int{{{1, 2}, {0, 0}, {0, 1, 1}}, {{0, 2}, {0, 2}, {0, 0, 2}}, {{1, 1}, {2, 0}, {0, 0, 2}}}
	for _, limit := range []int{3, 4, api.MaxStates} {
		if l, all, e := Explore(c, limit); !slices.EqualFunc(l, want, same) || !all || e != api.OK {
			t.Error(limit, l, all, e)
		}
	}
	for limit := 1; limit < 3; limit++ {
		if l, all, e := Explore(c, limit); !slices.EqualFunc(l, want[:limit], same) || all || e != api.OK {
			t.Error(limit, l, all, e)
		}
	}
	for _, limit := range []int{0, -1, api.MaxStates + 1, math.MaxInt} {
		if l, all, e := Explore(c, limit); len(l) != 0 || all || e != api.ErrRange {
			t.Error(limit, l, all, e)
		}
	}
	l, _, _ := Explore(c, 2)
	l[0][0][0], l[1][2][2] = 9, 9
	if again, _, _ := Explore(c, 2); !slices.EqualFunc(again, want[:2], same) {
		t.Error("results share memory")
	}
}

func TestExploreOver(t *testing.T) {
	// From the initial marking, t leads to another one, and u, which comes after it, exceeds MaxTokens.
	c := api.ColorNet{
		Name:   "n",
		Sets:   []api.ColorSet{{Name: "c", Values: []string{"a"}}},
		Places: []api.ColorPlace{{Name: "p", Init: []int{1}}, {Name: "q", Init: []int{0}}, {Name: "r", Init: []int{api.MaxTokens - 1}}},
		Trans: []api.ColorTrans{
			{Name: "t", Pre: one(0), Post: one(1)},
			{Name: "u", Pre: one(1), Post: one(2)},
			{Name: "v", Pre: one(1), Post: []api.ColorArc{{Place: 2, Terms: []api.Term{{W: 2, Kind: api.All}}}}},
		},
	}
	if l, all, e := Explore(c, 1); len(l) != 1 || all || e != api.OK {
		t.Error("the second marking is not examined", l, all, e)
	}
	for _, limit := range []int{2, 3, 100} {
		// With the limit 2, the third marking is one too many, but u and v are fired.
		if l, all, e := Explore(c, limit); len(l) != 0 || all || e != api.ErrOver {
			t.Error(limit, l, all, e)
		}
	}
	c.Trans = c.Trans[:2]
	if l, all, e := Explore(c, 3); len(l) != 3 || !all || e != api.OK {
		t.Error(l, all, e)
	}
}

func one(place int) []api.ColorArc {
	return []api.ColorArc{{Place: place, Terms: []api.Term{{W: 1, Kind: api.All}}}}
}

// fired returns the marking after a transition by the definitions, or nil.
func fired(c api.ColorNet, m [][]int, t int, b []int) [][]int {
	var after [][]int
	for _, tokens := range m {
		after = append(after, slices.Clone(tokens))
	}
	for _, a := range c.Trans[t].Pre {
		tokens, _ := binding.Eval(c.Sets, c.Trans[t], c.Places[a.Place].Set, a.Terms, b)
		for i, k := range tokens {
			if after[a.Place][i] -= k; after[a.Place][i] < 0 {
				return nil
			}
		}
	}
	for _, a := range c.Trans[t].Post {
		tokens, _ := binding.Eval(c.Sets, c.Trans[t], c.Places[a.Place].Set, a.Terms, b)
		for i, k := range tokens {
			after[a.Place][i] += k
		}
	}
	return after
}

func TestRandomNets(t *testing.T) {
	large := 0
	for seed := range uint64(400) {
		c := nettest.Colored(seed)
		if f := Check(c); f != (api.Fault{}) {
			t.Fatal(c, f)
		}
		const limit = 60
		want := [][][]int{Initial(c)}
		complete := true
		for i := 0; i < len(want); i++ {
			m := want[i]
			for u := range c.Trans {
				var enabled [][]int
				for _, b := range binding.All(c.Sets, c.Trans[u]) {
					after := fired(c, m, u, b)
					got, e := Fire(c, m, u, b)
					if Enabled(c, m, u, b) != (after != nil) || (e == api.OK) != (after != nil) || after != nil && !same(got, after) {
						t.Fatal("Fire", c, m, u, b, got, e)
					}
					if after == nil {
						continue
					}
					enabled = append(enabled, b)
					checkOtherPlaces(t, c, m, got, u)
					known := slices.ContainsFunc(want, func(x [][]int) bool { return same(x, after) })
					if !known && len(want) < limit {
						want = append(want, after)
					} else if !known {
						complete = false
					}
				}
				if l := Bindings(c, m, u); !same(l, enabled) {
					t.Fatal("Bindings", c, m, u, l)
				}
			}
		}
		if l, all, e := Explore(c, limit); !slices.EqualFunc(l, want, same) || all != complete || e != api.OK {
			t.Fatal("Explore", c, l, all, e)
		}
		if len(want) > 5 {
			large++
		}
	}
	if large < 80 {
		t.Error("too few nets do much", large)
	}
}

// checkOtherPlaces checks that places without arcs keep their tokens.
func checkOtherPlaces(t *testing.T, c api.ColorNet, before, after [][]int, u int) {
	t.Helper()
	for p := range c.Places {
		touches := func(a api.ColorArc) bool { return a.Place == p }
		if !slices.ContainsFunc(c.Trans[u].Pre, touches) && !slices.ContainsFunc(c.Trans[u].Post, touches) && !slices.Equal(before[p], after[p]) {
			t.Fatal("another place changes", c, before, after, u)
		}
	}
}
