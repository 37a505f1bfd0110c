package witness

import (
	"math"
	"math/rand"
	"slices"
	"testing"

	"petrinet/api"
	"petrinet/explore"
	"petrinet/firing"
	"petrinet/net"
	"petrinet/nettest"
)

// made returns a graph with that many states, and edges given as From, Trans and To.
func made(states int, edges ...[3]int) api.Graph {
	g := api.Graph{States: make([][]int, states)}
	for _, e := range edges {
		g.Edges = append(g.Edges, api.Edge{From: e[0], Trans: e[1], To: e[2]})
	}
	return g
}

func is(t *testing.T, what string, got []int, ok bool, want ...int) {
	t.Helper()
	if !ok || !slices.Equal(got, want) {
		t.Error(what, got, ok, want)
	}
}

func none(t *testing.T, what string, got []int, ok bool) {
	t.Helper()
	if ok || len(got) > 0 {
		t.Error(what, got, ok)
	}
}

func TestExample(t *testing.T) {
	n := nettest.Ordinary(1, [2][]int{{0}, nil})
	n.Places[0].Init = 1
	g, _ := explore.Explore(n, 10)
	l, ok := Dead(g)
	is(t, "dead", l, ok, 0)
}

func TestLeastShortest(t *testing.T) {
	// Two sequences of length 2 lead to 3, by 1 and by 2: the second one is less, although its edges come later.
	g := made(5, [3]int{0, 5, 1}, [3]int{1, 0, 3}, [3]int{0, 4, 2}, [3]int{2, 9, 3}, [3]int{3, 1, 0}, [3]int{0, 7, 0})
	l, ok := To(g, 3)
	is(t, "to", l, ok, 4, 9)
	l, ok = Between(g, 3, 1)
	is(t, "between", l, ok, 1, 5)
	l, ok = To(g, 0)
	is(t, "no step", l, ok)
	l, ok = Between(g, 4, 4)
	is(t, "no step", l, ok)
	l, ok = To(g, 4)
	none(t, "no path", l, ok)
	l, ok = Between(g, 4, 0)
	none(t, "no path", l, ok)
	l, ok = Fires(g, 1)
	is(t, "fires", l, ok, 4, 9, 1)
	l, ok = Fires(g, 8)
	none(t, "fires", l, ok)
	l, ok = Loop(g, 0)
	is(t, "loop", l, ok, 7)
	l, ok = Loop(g, 2)
	is(t, "loop", l, ok, 9, 1, 4)
	l, ok = Loop(g, 4)
	none(t, "loop", l, ok)
	l, ok = Dead(g)
	none(t, "the only dead state cannot be reached", l, ok)
	if d := Diameter(g); d != 2 {
		t.Error(d)
	}
}

func TestFirstEdgeCounts(t *testing.T) {
	// The edge to state 2 does not count, as an earlier one has the same transition; the very first one is ignored.
	g := made(3, [3]int{0, 1, 3}, [3]int{0, 1, 1}, [3]int{0, 1, 2})
	l, ok := To(g, 1)
	is(t, "to", l, ok, 1)
	l, ok = To(g, 2)
	none(t, "to", l, ok)
	if l := Language(g, 3); len(l) != 2 || !slices.Equal(l[1], []int{1}) {
		t.Error(l)
	}
	if d := Diameter(g); d != 1 {
		t.Error(d)
	}
	// A loop that does not count.
	g = made(2, [3]int{0, 4, 1}, [3]int{0, 4, 0})
	l, ok = Loop(g, 0)
	none(t, "loop", l, ok)
}

func TestAnyTransitions(t *testing.T) {
	g := made(4, [3]int{0, math.MaxInt, 1}, [3]int{0, math.MinInt, 2}, [3]int{1, 0, 3}, [3]int{2, -1, 3}, [3]int{3, 0, -1}, [3]int{-1, 0, 3}, [3]int{math.MinInt, 0, math.MaxInt})
	l, ok := To(g, 3)
	is(t, "to", l, ok, math.MinInt, -1)
	l, ok = Dead(g)
	is(t, "dead", l, ok, math.MinInt, -1)
	l, ok = Fires(g, math.MaxInt)
	is(t, "fires", l, ok, math.MaxInt)
	if l := Language(g, 1); len(l) != 3 || len(l[0]) != 0 || l[1][0] != math.MinInt || l[2][0] != math.MaxInt {
		t.Error(l)
	}
}

func TestNoStates(t *testing.T) {
	for _, g := range []api.Graph{{}, {Edges: []api.Edge{{}}}, {Complete: true}} {
		l, ok := To(g, 0)
		none(t, "to", l, ok)
		l, ok = Dead(g)
		none(t, "dead", l, ok)
		l, ok = Fires(g, 0)
		none(t, "fires", l, ok)
		l, ok = Between(g, 0, 0)
		none(t, "between", l, ok)
		l, ok = Loop(g, 0)
		none(t, "loop", l, ok)
		if Diameter(g) != -1 || len(Language(g, 0)) != 0 {
			t.Error(g)
		}
	}
	g := made(1)
	for _, i := range []int{-1, 1, math.MinInt, math.MaxInt} {
		l, ok := To(g, i)
		none(t, "to", l, ok)
		l, ok = Between(g, i, 0)
		none(t, "between", l, ok)
		l, ok = Between(g, 0, i)
		none(t, "between", l, ok)
		l, ok = Between(g, i, i)
		none(t, "between", l, ok)
		l, ok = Loop(g, i)
		none(t, "loop", l, ok)
	}
	l, ok := Dead(g)
	is(t, "dead", l, ok)
	if d := Diameter(g); d != 0 {
		t.Error(d)
	}
}

func TestLanguageLimits(t *testing.T) {
	g := made(1, [3]int{0, 3, 0}, [3]int{0, 1, 0}, [3]int{0, 2, 0}, [3]int{0, 5, 0})
	for k, count := range []int{1, 5, 21, 85, 341, 1365, 5000} {
		if l := Language(g, k); len(l) != count {
			t.Error(k, len(l))
		}
	}
	for _, k := range []int{-1, 7, math.MinInt, math.MaxInt} {
		if l := Language(g, k); len(l) != 0 {
			t.Error(k, len(l))
		}
	}
	l := Language(g, 6)
	if !slices.Equal(l[5], []int{1, 1}) || !slices.Equal(l[20], []int{5, 5}) || !slices.Equal(l[1365], []int{1, 1, 1, 1, 1, 1}) {
		t.Error(l[:30])
	}
	// More edges than sequences that are listed.
	g = made(1)
	for u := range 6000 {
		g.Edges = append(g.Edges, api.Edge{Trans: -u})
	}
	l = Language(g, 6)
	if len(l) != 5000 || !slices.Equal(l[1], []int{-5999}) || !slices.Equal(l[4999], []int{-1001}) {
		t.Error(len(l), l[4999])
	}
}

// follow returns the state after a sequence, and true; false if there is none.
func follow(g api.Graph, from int, sequence []int) (int, bool) {
	for _, trans := range sequence {
		if from = explore.Step(g, from, trans); from < 0 {
			return 0, false
		}
	}
	return from, true
}

// words returns the sequences of length k over an alphabet in lexicographic order.
func words(alphabet []int, k int) [][]int {
	if k == 0 {
		return [][]int{{}}
	}
	var list [][]int
	for _, word := range words(alphabet, k-1) {
		for _, letter := range alphabet {
			list = append(list, append(slices.Clone(word), letter))
		}
	}
	return list
}

// oracle returns the first of all words that leads from a state to a wanted end.
func oracle(g api.Graph, all [][]int, from int, wanted func(word []int, end int) bool) ([]int, bool) {
	for _, word := range all {
		if end, ok := follow(g, from, word); ok && wanted(word, end) {
			return word, true
		}
	}
	return nil, false
}

func TestByDefinition(t *testing.T) {
	r := rand.New(rand.NewSource(16))
	alphabet := []int{-1, 0, 2}
	var all [][]int
	for k := range 6 {
		all = append(all, words(alphabet, k)...)
	}
	for range 1500 {
		g := made(1 + r.Intn(5))
		for range r.Intn(10) {
			g.Edges = append(g.Edges, api.Edge{From: r.Intn(len(g.States)+1) - r.Intn(2), Trans: alphabet[r.Intn(3)], To: r.Intn(len(g.States)+1) - r.Intn(2)})
		}
		same := func(what string, got []int, ok bool, from int, wanted func(word []int, end int) bool) {
			t.Helper()
			if want, found := oracle(g, all, from, wanted); ok != found || !slices.Equal(got, want) {
				t.Fatal(what, g, from, got, ok, want, found)
			}
		}
		l, ok := Dead(g)
		same("dead", l, ok, 0, func(_ []int, end int) bool { return len(explore.Next(g, end)) == 0 })
		for _, trans := range alphabet {
			l, ok = Fires(g, trans)
			same("fires", l, ok, 0, func(word []int, _ int) bool { return len(word) > 0 && word[len(word)-1] == trans })
		}
		diameter := 0
		for a := range g.States {
			l, ok = Loop(g, a)
			same("loop", l, ok, a, func(word []int, end int) bool { return len(word) > 0 && end == a })
			for b := range g.States {
				l, ok = Between(g, a, b)
				same("between", l, ok, a, func(_ []int, end int) bool { return end == b })
			}
			l, ok = To(g, a)
			same("to", l, ok, 0, func(_ []int, end int) bool { return end == a })
			diameter = max(diameter, len(l))
		}
		if d := Diameter(g); d != diameter {
			t.Fatal(g, d, diameter)
		}
		k := r.Intn(6)
		var language [][]int
		for _, word := range all {
			if _, ok := follow(g, 0, word); ok && len(word) <= k {
				language = append(language, word)
			}
		}
		if l := Language(g, k); !slices.EqualFunc(l, language, slices.Equal[[]int]) {
			t.Fatal(g, k, l, language)
		}
	}
}

// TestRun checks P16.5.
func TestRun(t *testing.T) {
	states := 0
	for seed := range uint64(300) {
		n := nettest.Random(seed, nettest.Shape{Places: 4, Trans: 4, Tokens: 2, Weight: 2, Cap: 3, Prio: 1})
		g, e := explore.Explore(n, 50)
		if e != api.OK {
			continue
		}
		for i, state := range g.States {
			l, ok := To(g, i)
			m, f := firing.Run(n, net.Initial(n), l)
			if !ok || f.Errno != api.OK || !slices.Equal(m, state) {
				t.Fatal(n, i, l, ok, m, f)
			}
			states++
		}
	}
	if states < 2000 {
		t.Error("too few states", states)
	}
}

func TestSharesNoMemory(t *testing.T) {
	g := made(2, [3]int{0, 2, 1}, [3]int{0, 1, 1}, [3]int{1, 0, 0})
	edges := slices.Clone(g.Edges)
	l := Language(g, 3)
	for _, sequence := range l {
		sequence = append(sequence, 99)
		for i := range sequence {
			sequence[i] = 99
		}
	}
	again := Language(g, 3)
	if !slices.Equal(again[1], []int{1}) || !slices.Equal(again[3], []int{1, 0}) || !slices.Equal(g.Edges, edges) {
		t.Error(again, g)
	}
	for i, sequence := range l {
		if sequence = sequence[:cap(sequence)]; i > 0 && slices.ContainsFunc(l[:i], func(other []int) bool {
			return len(other) > 0 && len(sequence) > 0 && &other[0] == &sequence[0]
		}) {
			t.Error("shared")
		}
	}
}

func TestLarge(t *testing.T) {
	const states = api.MaxStates
	g := made(states)
	for i := range states {
		for u := range api.MaxTrans {
			g.Edges = append(g.Edges, api.Edge{From: i, Trans: u, To: (i + 1) % states})
		}
	}
	l, ok := To(g, states-1)
	if !ok || len(l) != states-1 || slices.Max(l) != 0 {
		t.Error(len(l), ok)
	}
	if l, ok = Loop(g, 7); !ok || len(l) != states || Diameter(g) != states-1 {
		t.Error(len(l), ok)
	}
}
