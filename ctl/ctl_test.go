package ctl

import (
	"math/rand"
	"slices"
	"testing"

	"petrinet/api"
	"petrinet/explore"
	"petrinet/nettest"
	"petrinet/predicate"
)

// moving has a token that moves from p0 to p1 and back.
func moving() api.Net {
	n := nettest.Ordinary(2, [2][]int{{0}, {1}}, [2][]int{{1}, {0}})
	n.Places[0].Init = 1
	return n
}

func graphOf(n api.Net) api.Graph {
	g, _ := explore.Explore(n, api.MaxStates)
	return g
}

var always = part(api.True)

func tokens(place, rel, value int) api.Formula {
	return api.Formula{Kind: api.Atom, N: place, Rel: rel, Value: value}
}

// nested returns a formula with that many levels.
func nested(levels int, kind int, inner api.Formula) api.Formula {
	for range levels - 1 {
		inner = part(kind, inner)
	}
	return inner
}

func TestExample(t *testing.T) {
	f := part(api.AG, part(api.EF, tokens(0, api.Ge, 1)))
	l, e := States(moving(), graphOf(moving()), f)
	if e != api.OK || !slices.Equal(l, []bool{true, true}) {
		t.Error(l, e)
	}
	if ok, e := Holds(moving(), graphOf(moving()), f); e != api.OK || !ok {
		t.Error(ok, e)
	}
	if ok, e := Holds(moving(), graphOf(moving()), tokens(1, api.Ge, 1)); e != api.OK || ok {
		t.Error(ok, e)
	}
}

func TestCheck(t *testing.T) {
	with := func(f api.Formula, change func(f *api.Formula)) api.Formula {
		change(&f)
		return f
	}
	var unknown api.Formula
	deepUnknown := nested(17, api.EX, unknown)
	for i, c := range []struct {
		f api.Formula
		e api.Errno
	}{
		{always, api.OK},
		{part(api.Dead), api.OK},
		{api.Formula{Kind: api.Fires, N: 1}, api.OK},
		{tokens(1, api.Le, api.MaxTokens), api.OK},
		{part(api.Not, always), api.OK},
		{part(api.And, always, always), api.OK},
		{part(api.Or, always, always), api.OK},
		{part(api.EX, always), api.OK}, {part(api.EF, always), api.OK}, {part(api.EG, always), api.OK},
		{part(api.AX, always), api.OK}, {part(api.AF, always), api.OK}, {part(api.AG, always), api.OK},
		{part(api.EU, always, always), api.OK}, {part(api.AU, always, always), api.OK},
		// Kinds.
		{unknown, api.ErrKind}, {part(16), api.ErrKind}, {part(-1, always), api.ErrKind},
		{with(part(16), func(f *api.Formula) { f.N = 5 }), api.ErrKind},
		// Kids.
		{part(api.EX), api.ErrSize}, {part(api.EF, always, always), api.ErrSize}, {part(api.EG), api.ErrSize}, {part(api.AX), api.ErrSize},
		{part(api.AF, always, always), api.ErrSize}, {part(api.AG), api.ErrSize}, {part(api.EU, always), api.ErrSize}, {part(api.AU, always, always, always), api.ErrSize},
		{part(api.True, always), api.ErrSize}, {part(api.True, unknown), api.ErrSize}, {part(api.Not), api.ErrSize}, {part(api.And, always), api.ErrSize},
		{with(part(api.EU, always), func(f *api.Formula) { f.N = 1 }), api.ErrSize},
		{with(part(api.Fires, always), func(f *api.Formula) { f.N = 9 }), api.ErrSize},
		// Indices.
		{tokens(2, api.Le, 0), api.ErrNone}, {tokens(-1, 0, 0), api.ErrNone}, {api.Formula{Kind: api.Fires, N: 2}, api.ErrNone}, {api.Formula{Kind: api.Fires, N: -1, Rel: 1}, api.ErrNone},
		// Ranges.
		{tokens(0, 0, 0), api.ErrRange}, {tokens(0, 4, 0), api.ErrRange}, {tokens(0, api.Le, -1), api.ErrRange}, {tokens(0, api.Le, api.MaxTokens+1), api.ErrRange},
		{api.Formula{Kind: api.Fires, Rel: 1}, api.ErrRange}, {api.Formula{Kind: api.Dead, Value: 1}, api.ErrRange}, {api.Formula{Kind: api.True, N: 1}, api.ErrRange},
		{with(part(api.EX, always), func(f *api.Formula) { f.N = 1 }), api.ErrRange},
		{with(part(api.AG, always), func(f *api.Formula) { f.Rel = -1 }), api.ErrRange},
		{with(part(api.EU, always, always), func(f *api.Formula) { f.Value = 1 }), api.ErrRange},
		{with(part(api.AU, always, always), func(f *api.Formula) { f.N = -1 }), api.ErrRange},
		{with(part(api.Not, always), func(f *api.Formula) { f.N = 1 }), api.ErrRange},
		{with(part(api.Or, always, always), func(f *api.Formula) { f.Rel = 1 }), api.ErrRange},
		// A part comes before its kids, and these in order.
		{with(part(api.EX, unknown), func(f *api.Formula) { f.N = 1 }), api.ErrRange},
		{part(api.EU, tokens(9, 1, 0), unknown), api.ErrNone},
		{part(api.AU, part(api.EX, unknown), tokens(9, 1, 0)), api.ErrKind},
		{part(api.And, always, part(api.EG)), api.ErrSize},
		// Levels.
		{nested(16, api.AX, always), api.OK}, {nested(16, api.Not, part(api.Dead)), api.OK}, {nested(17, api.AX, always), api.ErrDepth}, {deepUnknown, api.ErrDepth},
		{part(api.And, nested(16, api.EX, always), unknown), api.ErrDepth}, {part(api.And, unknown, nested(16, api.EX, always)), api.ErrKind},
	} {
		if e := Check(moving(), c.f); e != c.e {
			t.Error(i, c.f, e)
		}
		if c.e == api.OK {
			continue
		}
		if l, e := States(moving(), api.Graph{}, c.f); e != c.e || len(l) != 0 {
			t.Error(i, l, e)
		}
		if ok, e := Holds(moving(), graphOf(moving()), c.f); e != c.e || ok {
			t.Error(i, ok, e)
		}
	}
	if e := Check(api.Net{}, unknown); e != api.ErrName {
		t.Error(e)
	}
	self := api.Formula{Kind: api.AU, Kids: make([]api.Formula, 2)}
	self.Kids[0], self.Kids[1] = self, self
	if e := Check(moving(), self); e != api.ErrDepth {
		t.Error(e)
	}
}

func TestGraphErrors(t *testing.T) {
	change := func(f func(g *api.Graph)) api.Graph {
		g := graphOf(moving())
		f(&g)
		return g
	}
	for i, c := range []struct {
		g api.Graph
		e api.Errno
	}{
		{api.Graph{}, api.ErrState},
		{api.Graph{Complete: true}, api.ErrState},
		{change(func(g *api.Graph) { g.Complete = false }), api.ErrState},
		{change(func(g *api.Graph) { g.Complete = false; g.Edges[0].To = 2 }), api.ErrState},
		{change(func(g *api.Graph) { g.States = nil }), api.ErrState},
		{change(func(g *api.Graph) { g.Edges[0].To = 2 }), api.ErrRange},
		{change(func(g *api.Graph) { g.Edges[1].To = -1 }), api.ErrRange},
		{change(func(g *api.Graph) { g.Edges[1].From = 2 }), api.ErrRange},
		{change(func(g *api.Graph) { g.Edges[1].From = -1 }), api.ErrRange},
		{change(func(g *api.Graph) { g.Edges[1].Trans = 2 }), api.ErrRange},
		{change(func(g *api.Graph) { g.Edges[0].Trans = -1 }), api.ErrRange},
		{change(func(g *api.Graph) { g.States[1] = []int{0} }), api.ErrRange},
		{change(func(g *api.Graph) { g.States[1] = []int{0, 1, 0} }), api.ErrRange},
		{change(func(g *api.Graph) { g.States[0][1] = -1 }), api.ErrRange},
		{change(func(g *api.Graph) { g.States[0][1] = api.MaxTokens + 1 }), api.ErrRange},
		{change(func(g *api.Graph) { g.States[0][1] = api.MaxTokens }), api.OK},
		{change(func(g *api.Graph) { g.Edges = nil }), api.OK},
	} {
		l, e := States(moving(), c.g, always)
		if e != c.e || (e == api.OK) != (len(l) == 2) {
			t.Error(i, l, e)
		}
		if ok, e := Holds(moving(), c.g, always); e != c.e || ok != (e == api.OK) {
			t.Error(i, ok, e)
		}
		if w, ok := Witness(moving(), c.g, part(api.EF, always)); len(w) != 0 || ok != (c.e == api.OK) {
			t.Error(i, w, ok)
		}
	}
}

func TestDeadStates(t *testing.T) {
	// A state without edges is its own only successor.
	n := nettest.Ordinary(1, [2][]int{{0}, nil})
	n.Places[0].Init = 1
	g := graphOf(n)
	empty := tokens(0, api.Eq, 0)
	for i, c := range []struct {
		f    api.Formula
		want []bool
	}{
		{part(api.EX, empty), []bool{true, true}},
		{part(api.AX, empty), []bool{true, true}},
		{part(api.EX, not(empty)), []bool{false, false}},
		{part(api.EG, empty), []bool{false, true}},
		{part(api.AG, empty), []bool{false, true}},
		{part(api.EG, not(empty)), []bool{false, false}},
		{part(api.AF, empty), []bool{true, true}},
		{part(api.AF, part(api.Dead)), []bool{true, true}},
		{part(api.EU, api.Formula{Kind: api.Fires}, empty), []bool{true, true}},
		{part(api.AU, part(api.Dead), not(empty)), []bool{true, false}},
		{part(api.AU, always, not(empty)), []bool{true, false}},
	} {
		if l, e := States(n, g, c.f); e != api.OK || !slices.Equal(l, c.want) {
			t.Error(i, l, e)
		}
	}
}

// byPaths evaluates formulas by the definition: a path with more states than the graph either shows what its infinite continuations have, or goes round in a cycle that continues it.
type byPaths struct {
	n          api.Net
	g          api.Graph
	successors [][]int
}

func define(n api.Net, g api.Graph) byPaths {
	b := byPaths{n, g, explore.Adjacency(g)}
	for i := range b.successors {
		if len(b.successors[i]) == 0 {
			b.successors[i] = []int{i}
		}
	}
	return b
}

func (b byPaths) paths(state, length int) [][]int {
	if length == 1 {
		return [][]int{{state}}
	}
	var list [][]int
	for _, to := range b.successors[state] {
		for _, rest := range b.paths(to, length-1) {
			list = append(list, append([]int{state}, rest...))
		}
	}
	return list
}

func (b byPaths) holds(f api.Formula, state int) bool {
	kid := func(i, state int) bool { return b.holds(f.Kids[i], state) }
	some := func(property func(path []int) bool) bool {
		return slices.ContainsFunc(b.paths(state, len(b.g.States)+1), property)
	}
	all := func(property func(path []int) bool) bool {
		return !some(func(path []int) bool { return !property(path) })
	}
	second := func(path []int) bool { return kid(0, path[1]) }
	finally := func(path []int) bool {
		return slices.ContainsFunc(path, func(s int) bool { return kid(0, s) })
	}
	globally := func(path []int) bool {
		return !slices.ContainsFunc(path, func(s int) bool { return !kid(0, s) })
	}
	until := func(path []int) bool {
		for _, s := range path {
			if kid(1, s) {
				return true
			}
			if !kid(0, s) {
				return false
			}
		}
		return false
	}
	switch f.Kind {
	case api.Not:
		return !kid(0, state)
	case api.And:
		return kid(0, state) && kid(1, state)
	case api.Or:
		return kid(0, state) || kid(1, state)
	case api.EX:
		return some(second)
	case api.AX:
		return all(second)
	case api.EF:
		return some(finally)
	case api.AF:
		return all(finally)
	case api.EG:
		return some(globally)
	case api.AG:
		return all(globally)
	case api.EU:
		return some(until)
	case api.AU:
		return all(until)
	}
	ok, _ := predicate.Eval(b.n, f, b.g.States[state])
	return ok
}

func (b byPaths) states(f api.Formula) []bool {
	var list []bool
	for state := range b.g.States {
		list = append(list, b.holds(f, state))
	}
	return list
}

func randomFormula(r *rand.Rand, levels, kinds int) api.Formula {
	kind := 1 + r.Intn(kinds)
	count, _ := kidsOf(kind)
	if levels == 1 && count > 0 {
		kind, count = api.Atom, 0
	}
	f := api.Formula{Kind: kind}
	switch kind {
	case api.Atom:
		f = tokens(r.Intn(2), 1+r.Intn(3), r.Intn(2))
	case api.Fires:
		f.N = r.Intn(2)
	}
	for range count {
		f.Kids = append(f.Kids, randomFormula(r, levels-1, kinds))
	}
	return f
}

// randomGraph returns a graph for a net with two places and two transitions, which need not be its state graph.
func randomGraph(r *rand.Rand) api.Graph {
	g := api.Graph{Complete: true}
	for range 1 + r.Intn(4) {
		g.States = append(g.States, []int{r.Intn(2), r.Intn(3)})
	}
	for range r.Intn(6) {
		g.Edges = append(g.Edges, api.Edge{From: r.Intn(len(g.States)), Trans: r.Intn(2), To: r.Intn(len(g.States))})
	}
	return g
}

func TestByDefinition(t *testing.T) {
	r := rand.New(rand.NewSource(20))
	mixed := map[int]int{}
	for range 3000 {
		g := randomGraph(r)
		f := randomFormula(r, 1+r.Intn(3), api.AU)
		l, e := States(moving(), g, f)
		if want := define(moving(), g).states(f); e != api.OK || !slices.Equal(l, want) {
			t.Fatal(g, f, l, e, want)
		}
		if ok, e := Holds(moving(), g, f); e != api.OK || ok != l[0] {
			t.Fatal(g, f, ok, e)
		}
		if slices.Contains(l, true) && slices.Contains(l, false) {
			mixed[f.Kind]++
		}
	}
	for kind := api.Atom; kind <= api.AU; kind++ {
		if mixed[kind] < 5 {
			t.Error("too few cases", kind, mixed)
		}
	}
}

// TestEquivalences checks P20.5.
func TestEquivalences(t *testing.T) {
	r := rand.New(rand.NewSource(205))
	for range 1500 {
		g := randomGraph(r)
		f, h := randomFormula(r, 3, api.AU), randomFormula(r, 3, api.AU)
		same := func(a, b api.Formula) {
			t.Helper()
			x, e := States(moving(), g, a)
			y, d := States(moving(), g, b)
			if e != api.OK || d != api.OK || !slices.Equal(x, y) {
				t.Fatal(g, a, b, x, y, e, d)
			}
		}
		same(part(api.AG, f), not(part(api.EF, not(f))))
		same(part(api.AF, f), not(part(api.EG, not(f))))
		same(part(api.AX, f), not(part(api.EX, not(f))))
		same(part(api.EF, f), part(api.Or, f, part(api.EX, part(api.EF, f))))
		same(part(api.EU, f, h), part(api.Or, h, part(api.And, f, part(api.EX, part(api.EU, f, h)))))
		same(part(api.AU, f, h), part(api.Or, h, part(api.And, f, part(api.AX, part(api.AU, f, h)))))
		if big := Existential(f); Check(moving(), big) == api.OK {
			same(f, big)
		}
	}
}

func TestExistential(t *testing.T) {
	p, q := tokens(0, api.Ge, 1), tokens(1, api.Le, 2)
	odd := func(kind int, kids ...api.Formula) api.Formula {
		return api.Formula{Kind: kind, N: 1, Rel: 2, Value: 3, Kids: kids}
	}
	for i, c := range []struct{ f, want api.Formula }{
		{p, p},
		{part(api.EF, p), part(api.EU, always, p)},
		{part(api.AX, p), not(part(api.EX, not(p)))},
		{part(api.AF, p), not(part(api.EG, not(p)))},
		{part(api.AG, p), not(part(api.EU, always, not(p)))},
		{part(api.AU, p, q), part(api.And, not(part(api.EU, not(q), part(api.And, not(p), not(q)))), not(part(api.EG, not(q))))},
		// Kids are replaced before, also below kinds that stay.
		{part(api.EF, part(api.AX, p)), part(api.EU, always, not(part(api.EX, not(p))))},
		{part(api.AF, not(p)), not(part(api.EG, not(not(p))))},
		{part(api.Or, part(api.EF, p), q), part(api.Or, part(api.EU, always, p), q)},
		{part(api.EX, part(api.EF, p)), part(api.EX, part(api.EU, always, p))},
		{part(api.EG, part(api.EF, p)), part(api.EG, part(api.EU, always, p))},
		{part(api.EU, part(api.EF, p), part(api.EF, q)), part(api.EU, part(api.EU, always, p), part(api.EU, always, q))},
		// Numbers of parts that stay remain, and those of parts that are replaced vanish.
		{odd(api.And, odd(api.EF, p), odd(api.True)), odd(api.And, part(api.EU, always, p), odd(api.True))},
		{odd(api.EX, odd(api.Dead)), odd(api.EX, odd(api.Dead))},
		{odd(api.AU, p, q), part(api.And, not(part(api.EU, not(q), part(api.And, not(p), not(q)))), not(part(api.EG, not(q))))},
		// Other kinds and numbers of kids: nothing below is replaced.
		{odd(0, part(api.EF, p)), odd(0, part(api.EF, p))},
		{odd(16, part(api.EF, p)), odd(16, part(api.EF, p))},
		{part(api.True, part(api.EF, p)), part(api.True, part(api.EF, p))},
		{part(api.EF), part(api.EF)},
		{odd(api.EF, part(api.EF, p), q), odd(api.EF, part(api.EF, p), q)},
		{part(api.AU, part(api.EF, p)), part(api.AU, part(api.EF, p))},
		{part(api.Not, part(api.EF, p), part(api.AG, p)), part(api.Not, part(api.EF, p), part(api.AG, p))},
		{part(api.EF, part(api.And, part(api.EF, p))), part(api.EU, always, part(api.And, part(api.EF, p)))},
	} {
		if g := Existential(c.f); !predicate.Same(g, c.want) {
			t.Error(i, g)
		}
	}
}

func TestExistentialSharesNoMemory(t *testing.T) {
	f := part(api.AU, part(api.EX, tokens(0, api.Ge, 1)), part(api.EF, tokens(0, api.Le, 1)))
	g, want := Existential(f), Existential(f)
	var visit func(f api.Formula)
	count := 0
	visit = func(f api.Formula) {
		for i := range f.Kids {
			f.Kids[i].Value += 100
			count++
			visit(f.Kids[i])
		}
	}
	visit(g)
	var compare func(a, b api.Formula)
	compare = func(a, b api.Formula) {
		for i := range a.Kids {
			if a.Kids[i].Value != b.Kids[i].Value+100 {
				t.Error("shared")
			}
			compare(a.Kids[i], b.Kids[i])
		}
	}
	compare(g, want)
	if count < 10 || f.Kids[0].Value != 0 || f.Kids[0].Kids[0].Value != 1 || f.Kids[1].Kids[0].Value != 1 {
		t.Error(count, f)
	}
	wrong := part(api.EF, part(99, always))
	Existential(wrong).Kids[1].Kids[0].Kind = 7
	if wrong.Kids[0].Kids[0].Kind != api.True {
		t.Error("shared")
	}
}

func TestExistentialOfItself(t *testing.T) {
	for _, kind := range []int{api.EF, api.And, api.AU, 99} {
		f := api.Formula{Kind: kind, Kids: make([]api.Formula, 2)}
		f.Kids[0], f.Kids[1] = f, f
		if g := Existential(f); g.Kind != 0 {
			t.Error(g.Kind)
		}
	}
}

func TestWitness(t *testing.T) {
	n := nettest.Ordinary(4, [2][]int{{0}, {1}}, [2][]int{{1}, {2}}, [2][]int{{0}, {3}}, [2][]int{{3}, {2}})
	n.Places[0].Init = 1
	g := graphOf(n)
	for i, c := range []struct {
		f    api.Formula
		want []int
		ok   bool
	}{
		{part(api.EF, tokens(2, api.Eq, 1)), []int{0, 1}, true},
		{part(api.EF, part(api.And, tokens(2, api.Eq, 0), tokens(0, api.Eq, 0))), []int{0}, true},
		{part(api.EF, part(api.Dead)), []int{0, 1}, true},
		{part(api.EF, api.Formula{Kind: api.Fires, N: 3}), []int{2}, true},
		{part(api.EF, always), nil, true},
		{part(api.EF, not(always)), nil, false},
		{part(api.EF, part(api.EX, always)), nil, false},
		{part(api.EF, not(part(api.EF, not(always)))), nil, false},
		{part(api.AF, tokens(2, api.Eq, 1)), nil, false},
		{part(api.AX, always), nil, false},
		{always, nil, false},
		{tokens(0, api.Eq, 1), nil, false},
		{part(api.EF), nil, false},
		{part(api.EF, tokens(4, api.Eq, 1)), nil, false},
		{part(api.EF, always, always), nil, false},
		{api.Formula{Kind: api.EF, N: 1, Kids: []api.Formula{always}}, nil, false},
		{part(api.EF, nested(15, api.Not, always)), nil, true},
		{part(api.EF, nested(16, api.Not, always)), nil, false},
	} {
		if l, ok := Witness(n, g, c.f); ok != c.ok || !slices.Equal(l, c.want) {
			t.Error(i, l, ok)
		}
	}
	if l, ok := Witness(api.Net{}, g, part(api.EF, always)); ok || len(l) != 0 {
		t.Error(l, ok)
	}
	// The only edge to the goal does not count, as another one with its transition comes before it.
	g = api.Graph{States: [][]int{{1, 0}, {1, 1}, {0, 1}}, Edges: []api.Edge{{From: 0, To: 1}, {From: 0, To: 2}}, Complete: true}
	goal := part(api.EF, tokens(0, api.Eq, 0))
	if ok, e := Holds(moving(), g, goal); e != api.OK || !ok {
		t.Error(ok, e)
	}
	if l, ok := Witness(moving(), g, goal); ok || len(l) != 0 {
		t.Error(l, ok)
	}
}

// words returns the sequences of length k of two transitions in lexicographic order.
func words(k int) [][]int {
	if k == 0 {
		return [][]int{{}}
	}
	var list [][]int
	for _, word := range words(k - 1) {
		list = append(list, append(slices.Clone(word), 0), append(slices.Clone(word), 1))
	}
	return list
}

func TestWitnessByDefinition(t *testing.T) {
	r := rand.New(rand.NewSource(204))
	var all [][]int
	for k := range 5 {
		all = append(all, words(k)...)
	}
	found, none := 0, 0
	for range 3000 {
		g := randomGraph(r)
		kid := randomFormula(r, 2, api.Or)
		goals, _ := States(moving(), g, kid)
		at := slices.IndexFunc(all, func(word []int) bool {
			end := 0
			for _, u := range word {
				if end >= 0 {
					end = explore.Step(g, end, u)
				}
			}
			return end >= 0 && goals[end]
		})
		l, ok := Witness(moving(), g, part(api.EF, kid))
		if ok != (at >= 0) || ok && !slices.Equal(l, all[at]) || !ok && len(l) != 0 {
			t.Fatal(g, kid, l, ok, at)
		}
		if at > 0 {
			found++
		} else if holds, _ := Holds(moving(), g, part(api.EF, kid)); at < 0 && holds {
			none++
		}
	}
	if found < 100 || none < 10 {
		t.Error("too few cases", found, none)
	}
}

func TestLarge(t *testing.T) {
	const states = api.MaxStates
	g := api.Graph{Complete: true}
	for i := range states {
		g.States = append(g.States, []int{i, 0})
		for u := range 2 {
			g.Edges = append(g.Edges, api.Edge{From: i, Trans: u, To: min(i+1, states-1)})
		}
	}
	last := tokens(0, api.Eq, states-1)
	f := part(api.And, part(api.AF, last), part(api.AU, part(api.EX, part(api.EG, always)), part(api.AG, last)))
	if ok, e := Holds(moving(), g, f); !ok || e != api.OK {
		t.Error(ok, e)
	}
	if l, ok := Witness(moving(), g, part(api.EF, last)); !ok || len(l) != states-1 {
		t.Error(len(l), ok)
	}
	if g.Edges[0] != (api.Edge{To: 1}) || len(g.Edges) != 2*states {
		t.Error("changed")
	}
}
