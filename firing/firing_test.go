package firing_test

import (
	"math"
	"math/rand"
	"slices"
	"testing"

	"petrinet/api"
	"petrinet/firing"
	"petrinet/marking"
	"petrinet/matrix"
	"petrinet/net"
	"petrinet/nettest"
)

var indices = []int{-1, math.MinInt, math.MaxInt}

// sample has two places, the second one with a capacity, and transitions with all that they can have.
func sample() api.Net {
	return api.Net{
		Name:   "n",
		Places: []api.Place{{Name: "p", Init: 3}, {Name: "q", Cap: 4}},
		Trans: []api.Trans{
			{Name: "move", Pre: []api.Arc{{Place: 0, W: 2}}, Post: []api.Arc{{Place: 1, W: 3}}},
			{Name: "stop", Inh: []api.Arc{{Place: 0, W: 3}}, Post: []api.Arc{{Place: 0, W: 1}}},
			{Name: "loop", Pre: []api.Arc{{Place: 1, W: 1}}, Post: []api.Arc{{Place: 1, W: 2}}},
			{Name: "first", Pre: []api.Arc{{Place: 1, W: 4}}, Post: []api.Arc{{Place: 0, W: 1}}, Prio: 1},
		},
	}
}

func TestEnabled(t *testing.T) {
	n := sample()
	for _, c := range []struct {
		m, enabled, may []int
	}{
		{[]int{3, 0}, []int{0}, []int{0}},
		{[]int{2, 0}, []int{0, 1}, []int{0, 1}},
		{[]int{1, 1}, []int{1, 2}, []int{1, 2}},
		{[]int{2, 1}, []int{0, 1, 2}, []int{0, 1, 2}},
		{[]int{2, 2}, []int{1, 2}, []int{1, 2}},
		{[]int{3, 3}, []int{2}, []int{2}},
		// The transition with the greater priority is the only one that may fire.
		{[]int{2, 4}, []int{1, 3}, []int{3}},
		{[]int{3, 4}, []int{3}, []int{3}},
		// A place that has more tokens than its capacity disables what leaves it so.
		{[]int{2, 5}, []int{3}, []int{3}},
		{[]int{2, 8}, []int{3}, []int{3}},
		{[]int{2, 9}, nil, nil},
		{[]int{api.MaxTokens, 3}, []int{2}, []int{2}},
	} {
		for i := range n.Trans {
			if firing.Enabled(n, c.m, i) != slices.Contains(c.enabled, i) {
				t.Errorf("Enabled(%v, %d)", c.m, i)
			}
			if firing.May(n, c.m, i) != slices.Contains(c.may, i) {
				t.Errorf("May(%v, %d)", c.m, i)
			}
		}
		if l := firing.List(n, c.m); !slices.Equal(l, c.may) || firing.Dead(n, c.m) != (len(c.may) == 0) {
			t.Errorf("List(%v) is %v", c.m, l)
		}
	}
}

func TestCapacityOfOtherPlaces(t *testing.T) {
	n := api.Net{Name: "n", Places: []api.Place{{Name: "p"}, {Name: "q", Cap: 2}}, Trans: []api.Trans{{Name: "t", Post: []api.Arc{{Place: 0, W: 1}}}, {Name: "u", Pre: []api.Arc{{Place: 1, W: 1}}}}}
	for tokens, want := range [][]int{{0}, {0, 1}, {0, 1}, {1}, nil} {
		if l := firing.List(n, []int{0, tokens}); !slices.Equal(l, want) {
			t.Errorf("%d tokens: %v", tokens, l)
		}
	}
}

func TestExamples(t *testing.T) {
	n := api.Net{Name: "n", Places: []api.Place{{Name: "p", Init: 1}}, Trans: []api.Trans{{Name: "t", Pre: []api.Arc{{Place: 0, W: 1}}}}}
	m, e := firing.Fire(n, []int{1}, 0)
	if e != api.OK || !slices.Equal(m, []int{0}) || !firing.Dead(n, m) || firing.Dead(n, []int{1}) {
		t.Error(m, e)
	}
	if !firing.Dead(api.Net{Name: "n", Places: []api.Place{{Name: "p"}}}, []int{0}) {
		t.Error("a net without transitions")
	}
	n.Trans = append(n.Trans, api.Trans{Name: "u", Prio: 1})
	if l := firing.List(n, []int{1}); !slices.Equal(l, []int{1}) {
		t.Error(l)
	}
}

func TestInvalidArguments(t *testing.T) {
	n := sample()
	for _, i := range append(indices, 4) {
		if firing.Enabled(n, []int{2, 0}, i) || firing.May(n, []int{2, 0}, i) {
			t.Error("a transition that does not exist", i)
		}
		if m, e := firing.Fire(n, []int{2, 0}, i); len(m) != 0 || e != api.ErrRange {
			t.Error(m, e)
		}
	}
	for _, m := range [][]int{nil, {2}, {2, 0, 0}, {2, -1}, {api.MaxTokens + 1, 0}, {math.MinInt, 0}} {
		if firing.Enabled(n, m, 0) || firing.May(n, m, 0) || len(firing.List(n, m)) != 0 || firing.Dead(n, m) {
			t.Error("an invalid marking", m)
		}
		if l, e := firing.Fire(n, m, 9); len(l) != 0 || e != api.ErrSize {
			t.Error(m, l, e)
		}
		for _, seq := range [][]int{nil, {0}, {9}} {
			if l, f := firing.Run(n, m, seq); len(l) != 0 || f != (api.Fault{Errno: api.ErrSize}) {
				t.Error(m, l, f)
			}
		}
	}
	n.Trans[3].Name = "p"
	if firing.Enabled(n, []int{2, 0}, 0) || firing.May(n, []int{2, 0}, 0) || len(firing.List(n, []int{2, 0})) != 0 || firing.Dead(n, []int{9, 9}) {
		t.Error("an invalid net")
	}
	if l, e := firing.Fire(n, nil, 9); len(l) != 0 || e != api.ErrTwice {
		t.Error(l, e)
	}
	if l, f := firing.Run(n, nil, nil); len(l) != 0 || f != (api.Fault{Errno: api.ErrTwice}) {
		t.Error(l, f)
	}
	if l, e := firing.Parikh(n, []int{9}); len(l) != 0 || e != api.ErrTwice {
		t.Error(l, e)
	}
	if l, e := firing.Names(n, nil); len(l) != 0 || e != api.ErrTwice {
		t.Error(l, e)
	}
}

func TestFire(t *testing.T) {
	n := sample()
	m := []int{2, 1}
	for i, want := range [][]int{{0, 4}, {3, 1}, {2, 2}, nil} {
		l, e := firing.Fire(n, m, i)
		if !slices.Equal(l, want) || (e == api.ErrDead) != (want == nil) || !slices.Equal(m, []int{2, 1}) {
			t.Error(i, l, e)
		}
	}
	if l, e := firing.Fire(n, []int{2, 4}, 1); len(l) != 0 || e != api.ErrDead {
		t.Error("a transition of smaller priority", l, e)
	}
	over := api.Net{Name: "n", Places: []api.Place{{Name: "p"}}, Trans: []api.Trans{{Name: "t", Post: []api.Arc{{Place: 0, W: 2}}}, {Name: "u", Pre: []api.Arc{{Place: 0, W: 3}}, Post: []api.Arc{{Place: 0, W: 3}}}}}
	if l, e := firing.Fire(over, []int{api.MaxTokens - 2}, 0); !slices.Equal(l, []int{api.MaxTokens}) || e != api.OK {
		t.Error(l, e)
	}
	if l, e := firing.Fire(over, []int{api.MaxTokens - 1}, 0); len(l) != 0 || e != api.ErrOver {
		t.Error(l, e)
	}
	if l, e := firing.Fire(over, []int{api.MaxTokens}, 1); !slices.Equal(l, []int{api.MaxTokens}) || e != api.OK {
		t.Error(l, e)
	}
}

func TestRun(t *testing.T) {
	n := sample()
	m := []int{2, 0}
	l, f := firing.Run(n, m, nil)
	if !slices.Equal(l, m) || f != (api.Fault{}) {
		t.Error(l, f)
	}
	l[0] = 7
	if m[0] != 2 {
		t.Error("the result shares memory with the argument")
	}
	if l, f := firing.Run(n, m, []int{1, 0, 2, 3}); !slices.Equal(l, []int{2, 0}) || f != (api.Fault{}) {
		t.Error(l, f)
	}
	for _, c := range []struct {
		seq []int
		f   api.Fault
	}{
		{[]int{4}, api.Fault{Errno: api.ErrRange}},
		{[]int{0, -1, 9}, api.Fault{Errno: api.ErrRange, At: 1}},
		{[]int{2}, api.Fault{Errno: api.ErrDead}},
		{[]int{1, 0, 0, 9}, api.Fault{Errno: api.ErrDead, At: 2}},
	} {
		if l, f := firing.Run(n, m, c.seq); len(l) != 0 || f != c.f {
			t.Error(c.seq, l, f)
		}
	}
	grow := api.Net{Name: "n", Places: []api.Place{{Name: "p"}}, Trans: []api.Trans{{Name: "t", Post: []api.Arc{{Place: 0, W: 1}}}}}
	if l, f := firing.Run(grow, []int{api.MaxTokens - 2}, []int{0, 0, 0}); len(l) != 0 || f != (api.Fault{Errno: api.ErrOver, At: 2}) {
		t.Error(l, f)
	}
}

func TestParikhNames(t *testing.T) {
	n := sample()
	if l, e := firing.Parikh(n, []int{2, 0, 2, 3}); !slices.Equal(l, []int64{1, 0, 2, 1}) || e != api.OK {
		t.Error(l, e)
	}
	if l, e := firing.Parikh(n, nil); !slices.Equal(l, []int64{0, 0, 0, 0}) || e != api.OK {
		t.Error(l, e)
	}
	if l, e := firing.Names(n, []int{2, 0, 2}); !slices.Equal(l, []string{"loop", "move", "loop"}) || e != api.OK {
		t.Error(l, e)
	}
	if l, e := firing.Names(n, nil); len(l) != 0 || e != api.OK {
		t.Error(l, e)
	}
	for _, i := range append(indices, 4) {
		if l, e := firing.Parikh(n, []int{0, i}); len(l) != 0 || e != api.ErrRange {
			t.Error(i, l, e)
		}
		if l, e := firing.Names(n, []int{0, i}); len(l) != 0 || e != api.ErrRange {
			t.Error(i, l, e)
		}
	}
}

// enabled follows the definition, with the functions of layer 9.
func enabled(n api.Net, m []int, t int) bool {
	for p, place := range n.Places {
		pre, post := net.Pre(n, t, p), net.Post(n, t, p)
		if m[p] < pre || place.Cap != 0 && m[p]-pre+post > place.Cap {
			return false
		}
	}
	return !slices.ContainsFunc(n.Trans[t].Inh, func(a api.Arc) bool { return m[a.Place] >= a.W })
}

// greater reports whether an enabled transition has a greater priority than t.
func greater(n api.Net, m []int, t int) bool {
	for u := range n.Trans {
		if n.Trans[u].Prio > n.Trans[t].Prio && enabled(n, m, u) {
			return true
		}
	}
	return false
}

func TestRandomNets(t *testing.T) {
	r := rand.New(rand.NewSource(11))
	for seed := range uint64(400) {
		n := nettest.Random(seed, nettest.Shape{Places: 5, Trans: 6, Tokens: 3, Weight: 2, Cap: 3, Inh: 3, Prio: 2})
		for range 20 {
			m := make([]int, len(n.Places))
			for p := range m {
				m[p] = r.Intn(6)
			}
			var list []int
			for i := range n.Trans {
				if firing.Enabled(n, m, i) != enabled(n, m, i) {
					t.Fatal("Enabled", n, m, i)
				}
				may := enabled(n, m, i) && !greater(n, m, i)
				if firing.May(n, m, i) != may {
					t.Fatal("May", n, m, i)
				}
				if may {
					list = append(list, i)
				}
			}
			if !slices.Equal(firing.List(n, m), list) || firing.Dead(n, m) != (len(list) == 0) {
				t.Fatal("List", n, m, list)
			}
		}
	}
}

// walk fires up to k transitions at random and returns the sequence and the last marking.
func walk(r *rand.Rand, n api.Net, k int) ([]int, []int) {
	m := net.Initial(n)
	var seq []int
	for range k {
		list := firing.List(n, m)
		if len(list) == 0 {
			break
		}
		i := list[r.Intn(len(list))]
		after, e := firing.Fire(n, m, i)
		if e != api.OK {
			break
		}
		seq, m = append(seq, i), after
	}
	return seq, m
}

func TestMarkingEquation(t *testing.T) {
	r := rand.New(rand.NewSource(12))
	for seed := range uint64(300) {
		n := nettest.Random(seed, nettest.Shape{Places: 5, Trans: 6, Tokens: 3, Weight: 2, Cap: 3, Inh: 3, Prio: 1})
		seq, last := walk(r, n, 15)
		m, f := firing.Run(n, net.Initial(n), seq)
		if f != (api.Fault{}) || !slices.Equal(m, last) {
			t.Fatal("Run", n, seq, m, f)
		}
		if len(n.Trans) == 0 {
			continue
		}
		counts, _ := firing.Parikh(n, seq)
		change, _ := matrix.Apply(net.Incidence(n), counts)
		for p, tokens := range net.Initial(n) {
			if int64(tokens)+change[p] != int64(m[p]) {
				t.Fatal("the marking equation", n, seq, m)
			}
		}
	}
}

func TestMonotonicity(t *testing.T) {
	r := rand.New(rand.NewSource(13))
	for seed := range uint64(300) {
		n := nettest.Random(seed, nettest.Shape{Places: 5, Trans: 6, Tokens: 3, Weight: 3})
		low, high := make([]int, len(n.Places)), make([]int, len(n.Places))
		for p := range low {
			low[p] = r.Intn(4)
			high[p] = low[p] + r.Intn(2)
		}
		for _, i := range firing.List(n, low) {
			if !marking.Leq(low, high) || !firing.May(n, high, i) {
				t.Fatal(n, low, high, i)
			}
		}
	}
}
