package cunfold

import (
	"math"
	"math/rand"
	"slices"
	"strconv"
	"testing"

	"petrinet/api"
	"petrinet/binding"
	"petrinet/colored"
	"petrinet/explore"
	"petrinet/firing"
	"petrinet/net"
	"petrinet/nettest"
)

type terms = []api.Term

var arcs = nettest.Arcs

// sample has two color sets. The transition t moves a color from p to q, twice its successor, and takes y from r and puts back a greater z; u takes every color from q.
func sample() api.ColorNet {
	return api.ColorNet{
		Name: "n",
		Sets: []api.ColorSet{{Name: "c", Values: []string{"a", "b"}}, {Name: "d", Values: []string{"k", "l", "m"}}},
		Places: []api.ColorPlace{
			{Name: "p", Set: 0, Init: []int{1, 2}},
			{Name: "q", Set: 0, Init: []int{0, 0}},
			{Name: "r", Set: 1, Init: []int{0, 1, 1}},
		},
		Trans: []api.ColorTrans{
			{
				Name:   "t",
				Vars:   []api.Var{{Name: "x", Set: 0}, {Name: "y", Set: 1}, {Name: "z", Set: 1}},
				Guards: []api.Guard{{Op: api.Below, A: 1, B: 2}},
				Pre:    []api.ColorArc{{Place: 0, Terms: terms{{W: 1, Kind: api.Value, N: 0}}}, {Place: 2, Terms: terms{{W: 1, Kind: api.Value, N: 1}}}},
				Post:   []api.ColorArc{{Place: 1, Terms: terms{{W: 2, Kind: api.Succ, N: 0}}}, {Place: 2, Terms: terms{{W: 1, Kind: api.Value, N: 2}}}},
			},
			{Name: "u", Pre: []api.ColorArc{{Place: 1, Terms: terms{{W: 1, Kind: api.All}}}}, Post: []api.ColorArc{{Place: 0, Terms: terms{{W: 3, Kind: api.Const, N: 1}}}}},
		},
	}
}

func isZero(n api.Net) bool {
	return n.Name == "" && len(n.Places) == 0 && len(n.Trans) == 0
}

func TestUnfold(t *testing.T) {
	n, e := Unfold(sample())
	want := api.Net{
		Name:   "n",
		Places: []api.Place{{Name: "p0_0", Init: 1}, {Name: "p0_1", Init: 2}, {Name: "p1_0"}, {Name: "p1_1"}, {Name: "p2_0"}, {Name: "p2_1", Init: 1}, {Name: "p2_2", Init: 1}},
		Trans: []api.Trans{
			{Name: "t0_0", Pre: arcs(0, 1, 4, 1), Post: arcs(3, 2, 5, 1)},
			{Name: "t0_1", Pre: arcs(0, 1, 4, 1), Post: arcs(3, 2, 6, 1)},
			{Name: "t0_2", Pre: arcs(0, 1, 5, 1), Post: arcs(3, 2, 6, 1)},
			{Name: "t0_3", Pre: arcs(1, 1, 4, 1), Post: arcs(2, 2, 5, 1)},
			{Name: "t0_4", Pre: arcs(1, 1, 4, 1), Post: arcs(2, 2, 6, 1)},
			{Name: "t0_5", Pre: arcs(1, 1, 5, 1), Post: arcs(2, 2, 6, 1)},
			{Name: "t1_0", Pre: arcs(2, 1, 3, 1), Post: arcs(1, 3)},
		},
	}
	if e != api.OK || !net.Same(n, want) {
		t.Error(n, e)
	}
	small := api.ColorNet{Name: "s", Sets: []api.ColorSet{{Name: "c", Values: []string{"a", "b"}}}, Places: []api.ColorPlace{{Name: "p", Init: []int{0, 5}}}}
	if n, e := Unfold(small); e != api.OK || !net.Same(n, api.Net{Name: "s", Places: []api.Place{{Name: "p0_0"}, {Name: "p0_1", Init: 5}}}) {
		t.Error(n, e)
	}
}

// places returns that many places over the first color set of sample.
func places(k int) []api.ColorPlace {
	var list []api.ColorPlace
	for i := range k {
		list = append(list, api.ColorPlace{Name: "p" + strconv.Itoa(i), Init: []int{0, 1}})
	}
	return list
}

// variables returns that many variables over the first color set of sample.
func variables(k int) []api.Var {
	var list []api.Var
	for i := range k {
		list = append(list, api.Var{Name: "x" + strconv.Itoa(i)})
	}
	return list
}

// faulty changes sample so that the unfolding has an error, or not.
var faulty = []struct {
	change func(c *api.ColorNet)
	e      api.Errno
}{
	{func(c *api.ColorNet) {}, api.OK},
	{func(c *api.ColorNet) { c.Name = "" }, api.ErrName},
	{func(c *api.ColorNet) { c.Trans[0].Pre[0].Place = 9 }, api.ErrNone},
	{func(c *api.ColorNet) { c.Trans[0].Pre[0].Terms[0].W = 100 }, api.ErrWeight},
	{func(c *api.ColorNet) { c.Places, c.Trans = places(12), nil }, api.OK},
	{func(c *api.ColorNet) { c.Places, c.Trans = places(13), nil }, api.ErrSize},
	{func(c *api.ColorNet) { c.Trans = append(c.Trans, api.ColorTrans{Name: "v", Vars: variables(4)}) }, api.OK},
	{func(c *api.ColorNet) {
		c.Trans = append(c.Trans, api.ColorTrans{Name: "v", Vars: variables(4)}, api.ColorTrans{Name: "w"})
	}, api.OK},
	{func(c *api.ColorNet) {
		c.Trans = append(c.Trans, api.ColorTrans{Name: "v", Vars: variables(4)}, api.ColorTrans{Name: "w", Vars: variables(1)})
	}, api.ErrSize},
	// Sums of terms may have a weight that is too great, in Pre and in Post.
	{func(c *api.ColorNet) {
		c.Trans[1].Post[0].Terms = terms{{W: 50, Kind: api.Const, N: 1}, {W: 49, Kind: api.All}}
	}, api.OK},
	{func(c *api.ColorNet) {
		c.Trans[1].Post[0].Terms = terms{{W: 50, Kind: api.Const, N: 1}, {W: 50, Kind: api.All}}
	}, api.ErrWeight},
	{func(c *api.ColorNet) {
		c.Trans[1].Pre[0].Terms = terms{{W: 50, Kind: api.Const, N: 1}, {W: 50, Kind: api.All}}
	}, api.ErrWeight},
	{func(c *api.ColorNet) {
		c.Trans[1].Pre[0].Terms = slices.Repeat(terms{{W: 99, Kind: api.Const, N: 1}}, 11000)
	}, api.ErrWeight},
	{func(c *api.ColorNet) {
		c.Trans[1].Post[0].Terms = slices.Repeat(terms{{W: 99, Kind: api.Const, N: 1}}, 11000)
	}, api.ErrWeight},
	// Without a binding, no arc is evaluated.
	{func(c *api.ColorNet) {
		c.Trans[0].Guards = []api.Guard{{Op: api.Below, A: 1, B: 1}}
		c.Trans[0].Pre[0].Terms = slices.Repeat(terms{{W: 99, Kind: api.Const, N: 1}}, 11000)
	}, api.OK},
	// The number of places comes before the weights.
	{func(c *api.ColorNet) {
		c.Places = append(c.Places, places(13)...)
		for i := range c.Places {
			c.Places[i].Name = "p" + strconv.Itoa(i)
		}
		c.Trans[1].Post[0].Terms = terms{{W: 50, Kind: api.Const, N: 1}, {W: 50, Kind: api.All}}
	}, api.ErrSize},
}

func TestErrors(t *testing.T) {
	for i, f := range faulty {
		c := sample()
		f.change(&c)
		n, e := Unfold(c)
		if e != f.e || e != api.OK && !isZero(n) || e == api.OK && net.Check(n).Errno != api.OK {
			t.Errorf("case %d: Unfold %v %v", i, n, e)
		}
		if e == api.OK {
			continue
		}
		if m, e := Marking(c, nil); e != f.e || len(m) != 0 {
			t.Errorf("case %d: Marking %v %v", i, m, e)
		}
		if m, e := Color(c, nil); e != f.e || len(m) != 0 {
			t.Errorf("case %d: Color %v %v", i, m, e)
		}
		if u, e := Trans(c, -1, nil); e != f.e || u != 0 {
			t.Errorf("case %d: Trans %v %v", i, u, e)
		}
		if u, b, e := Binding(c, -1); e != f.e || u != 0 || len(b) != 0 {
			t.Errorf("case %d: Binding %v %v %v", i, u, b, e)
		}
	}
}

func TestMarkingColor(t *testing.T) {
	c := sample()
	m := [][]int{{1, 2}, {0, 3}, {4, 0, api.MaxTokens}}
	flat := []int{1, 2, 0, 3, 4, 0, api.MaxTokens}
	if l, e := Marking(c, m); e != api.OK || !slices.Equal(l, flat) {
		t.Error(l, e)
	}
	if l, e := Color(c, flat); e != api.OK || !slices.EqualFunc(l, m, slices.Equal[[]int]) {
		t.Error(l, e)
	}
	for _, m := range [][][]int{nil, {{1, 2}, {0, 3}}, {{1, 2}, {0, 3}, {4, 0}}, {{1, 2}, {0, 3}, {4, 0, 1, 0}}, {{1, 2, 0}, {3}, {4, 0, 1}}, {{1, -1}, {0, 3}, {4, 0, 1}}, {{1, 2}, {0, 3}, {4, 0, api.MaxTokens + 1}}, {{1, 2}, {0, 3}, {4, 0, 1}, nil}} {
		if l, e := Marking(c, m); e != api.ErrSize || len(l) != 0 {
			t.Error(m, l, e)
		}
	}
	for _, m := range [][]int{nil, flat[:6], append(slices.Clone(flat), 0), {1, 2, 0, 3, 4, 0, -1}, {1, 2, 0, 3, 4, 0, api.MaxTokens + 1}} {
		if l, e := Color(c, m); e != api.ErrSize || len(l) != 0 {
			t.Error(m, l, e)
		}
	}
}

func TestTransBinding(t *testing.T) {
	c := sample()
	for u, x := range []struct {
		t int
		b []int
	}{
		{0, []int{0, 0, 1}}, {0, []int{0, 0, 2}}, {0, []int{0, 1, 2}}, {0, []int{1, 0, 1}}, {0, []int{1, 0, 2}}, {0, []int{1, 1, 2}}, {1, nil},
	} {
		if i, e := Trans(c, x.t, x.b); e != api.OK || i != u {
			t.Error(x, i, e)
		}
		if trans, b, e := Binding(c, u); e != api.OK || trans != x.t || !slices.Equal(b, x.b) {
			t.Error(u, trans, b, e)
		}
	}
	for _, x := range []struct {
		t int
		b []int
		e api.Errno
	}{
		{-1, nil, api.ErrRange}, {2, nil, api.ErrRange}, {math.MinInt, nil, api.ErrRange}, {math.MaxInt, []int{9}, api.ErrRange},
		{0, nil, api.ErrNone}, {0, []int{0, 1, 1}, api.ErrNone}, {0, []int{0, 1}, api.ErrNone}, {0, []int{0, 0, 1, 0}, api.ErrNone}, {0, []int{2, 0, 1}, api.ErrNone}, {0, []int{-1, 0, 1}, api.ErrNone},
		{1, []int{0}, api.ErrNone}, {1, []int{0, 0, 1}, api.ErrNone},
	} {
		if i, e := Trans(c, x.t, x.b); e != x.e || i != 0 {
			t.Error(x, i, e)
		}
	}
	for _, u := range []int{-1, 7, math.MinInt, math.MaxInt} {
		if trans, b, e := Binding(c, u); e != api.ErrRange || trans != 0 || len(b) != 0 {
			t.Error(u, trans, b, e)
		}
	}
	// A transition without bindings has none in the unfolding.
	c.Trans = slices.Insert(c.Trans, 1, api.ColorTrans{Name: "v", Vars: variables(1), Guards: []api.Guard{{Op: api.Other}}})
	if trans, b, e := Binding(c, 6); e != api.OK || trans != 2 || len(b) != 0 {
		t.Error(trans, b, e)
	}
	if i, e := Trans(c, 2, nil); e != api.OK || i != 6 {
		t.Error(i, e)
	}
	if i, e := Trans(c, 1, []int{0}); e != api.ErrNone || i != 0 {
		t.Error(i, e)
	}
}

// random returns a small colored net.
func random(r *rand.Rand) api.ColorNet {
	c := api.ColorNet{Name: "n", Sets: sample().Sets}
	for i := range 2 + r.Intn(3) {
		place := api.ColorPlace{Name: "p" + strconv.Itoa(i), Set: r.Intn(2)}
		for range c.Sets[place.Set].Values {
			place.Init = append(place.Init, r.Intn(3))
		}
		c.Places = append(c.Places, place)
	}
	for i := range 1 + r.Intn(2) {
		t := api.ColorTrans{Name: "t" + strconv.Itoa(i), Vars: []api.Var{{Name: "x", Set: 0}, {Name: "y", Set: 1}}}
		if r.Intn(3) == 0 {
			t.Vars = append(t.Vars, api.Var{Name: "z", Set: r.Intn(2)})
			t.Guards = []api.Guard{{Op: 1 + r.Intn(3), A: 2, B: t.Vars[2].Set}}
		}
		t.Pre, t.Post = randomArcs(r, c), randomArcs(r, c)
		c.Trans = append(c.Trans, t)
	}
	return c
}

func randomArcs(r *rand.Rand, c api.ColorNet) []api.ColorArc {
	var list []api.ColorArc
	for p, place := range c.Places {
		if r.Intn(2) == 0 {
			continue
		}
		a := api.ColorArc{Place: p}
		for range 1 + r.Intn(2) {
			// The first two variables have the sets 0 and 1.
			term := api.Term{W: 1 + r.Intn(2), Kind: []int{api.Const, api.Value, api.Succ, api.Pred, api.All, api.Value}[r.Intn(6)], N: place.Set}
			if term.Kind == api.All {
				term.N = 0
			}
			a.Terms = append(a.Terms, term)
		}
		list = append(list, a)
	}
	return list
}

func TestRandomNets(t *testing.T) {
	r := rand.New(rand.NewSource(42))
	complete, fired := 0, 0
	for range 400 {
		c := random(r)
		n, e := Unfold(c)
		if e != api.OK || !net.Plain(n) {
			t.Fatal(c, n, e)
		}
		states, all, e := colored.Explore(c, 150)
		g, f := explore.Explore(n, 150)
		if e != api.OK || f != api.OK || all != g.Complete || len(states) != len(g.States) {
			t.Fatal(c, all, g.Complete, e, f)
		}
		if all {
			complete++
		}
		for i, m := range states {
			// The orders of both explorations are the same.
			if !slices.Equal(colored.Flat(m), g.States[i]) {
				t.Fatal(c, m, g.States[i])
			}
			if i < 20 {
				fired += checkFirings(t, c, n, m)
			}
		}
	}
	if complete < 100 || fired < 1000 {
		t.Error(complete, fired)
	}
}

// checkFirings compares all bindings at a marking with the transitions of the unfolding, and returns how many of them are enabled.
func checkFirings(t *testing.T, c api.ColorNet, n api.Net, m [][]int) int {
	t.Helper()
	flat, e := Marking(c, m)
	back, f := Color(c, flat)
	if e != api.OK || f != api.OK || !slices.EqualFunc(back, m, slices.Equal[[]int]) {
		t.Fatal(c, m, flat, back, e, f)
	}
	index, fired := 0, 0
	for trans := range c.Trans {
		for _, b := range binding.All(c.Sets, c.Trans[trans]) {
			u, e := Trans(c, trans, b)
			v, d, f := Binding(c, u)
			if e != api.OK || f != api.OK || u != index || v != trans || !slices.Equal(b, d) {
				t.Fatal(c, trans, b, u, v, d, e, f)
			}
			index++
			if colored.Enabled(c, m, trans, b) != firing.Enabled(n, flat, u) {
				t.Fatal(c, m, trans, b, u)
			}
			after, e := colored.Fire(c, m, trans, b)
			unfolded, f := firing.Fire(n, flat, u)
			if e != f || !slices.Equal(colored.Flat(after), unfolded) {
				t.Fatal(c, m, trans, b, after, unfolded, e, f)
			}
			if e == api.OK {
				fired++
			}
		}
	}
	if index != len(n.Trans) {
		t.Fatal(c, n, index)
	}
	return fired
}

func TestSharesNoMemory(t *testing.T) {
	c := sample()
	n, _ := Unfold(c)
	n.Places[0].Init, n.Trans[0].Pre[0].W = 9, 9
	m := [][]int{{1, 2}, {0, 3}, {4, 0, 5}}
	flat, _ := Marking(c, m)
	colors, _ := Color(c, flat)
	colors[0][0] = 9
	colors[0] = append(colors[0], 9)
	if flat[0] != 1 || colors[1][0] != 0 {
		t.Error("the result shares memory with the argument")
	}
	flat[0] = 7
	_, b, _ := Binding(c, 0)
	b[0] = 9
	if m[0][0] != 1 || c.Places[0].Init[0] != 1 {
		t.Error("the argument was changed")
	}
	if again, e := Unfold(c); e != api.OK || again.Places[0].Init != 1 || again.Trans[0].Pre[0].W != 1 {
		t.Error(again, e)
	}
}
