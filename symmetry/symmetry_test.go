package symmetry

import (
	"math"
	"math/rand"
	"slices"
	"strconv"
	"testing"

	"petrinet/api"
	"petrinet/explore"
	"petrinet/firing"
	"petrinet/net"
	"petrinet/nettest"
)

var arcs = nettest.Arcs

func sameLists(a, b [][]int) bool {
	return slices.EqualFunc(a, b, slices.Equal[[]int])
}

// loops returns a net of that many places, each with a token that a transition takes and gives back.
func loops(count int) api.Net {
	n := api.Net{Name: "n"}
	for i := range count {
		n.Places = append(n.Places, api.Place{Name: "p" + strconv.Itoa(i), Init: 1})
		n.Trans = append(n.Trans, api.Trans{Name: "t" + strconv.Itoa(i), Pre: arcs(i, 1), Post: arcs(i, 1)})
	}
	return n
}

func TestExample(t *testing.T) {
	if l, e := Automorphisms(loops(2)); e != api.OK || !sameLists(l, [][]int{{0, 1, 2, 3}, {1, 0, 3, 2}}) {
		t.Error(l, e)
	}
}

func TestWhatIsPreserved(t *testing.T) {
	change := func(f func(n *api.Net)) api.Net {
		n := loops(2)
		f(&n)
		return n
	}
	for i, c := range []struct {
		n     api.Net
		count int
	}{
		{loops(2), 2},
		{change(func(n *api.Net) { n.Places[0].Init = 2 }), 1},
		{change(func(n *api.Net) { n.Places[1].Cap = 2 }), 1},
		{change(func(n *api.Net) { n.Places[0].Cap, n.Places[1].Cap = 2, 2 }), 2},
		{change(func(n *api.Net) { n.Trans[1].Prio = 1 }), 1},
		{change(func(n *api.Net) { n.Trans[0].Pre[0].W = 2 }), 1},
		{change(func(n *api.Net) { n.Trans[1].Post[0].W = 2 }), 1},
		{change(func(n *api.Net) { n.Trans[1].Inh = arcs(1, 4) }), 1},
		{change(func(n *api.Net) { n.Trans[0].Inh, n.Trans[1].Inh = arcs(1, 4), arcs(1, 4) }), 1},
		{change(func(n *api.Net) { n.Trans[0].Inh, n.Trans[1].Inh = arcs(1, 4), arcs(0, 4) }), 2},
		{change(func(n *api.Net) { n.Trans[0].Inh, n.Trans[1].Inh = arcs(1, 4), arcs(0, 3) }), 1},
		// Two transitions with the same arcs, and none for the other place.
		{change(func(n *api.Net) { n.Trans[1].Pre, n.Trans[1].Post = arcs(0, 1), arcs(0, 1) }), 2},
		{change(func(n *api.Net) { n.Trans = nil }), 2},
		{change(func(n *api.Net) { n.Trans = n.Trans[:1] }), 1},
	} {
		if l, e := Automorphisms(c.n); e != api.OK || len(l) != c.count {
			t.Error(i, l, e)
		}
	}
}

func TestAutomorphismErrors(t *testing.T) {
	bad := loops(2)
	bad.Trans[1].Name = "p0"
	wide := loops(9)
	wide.Trans = nil
	tall := loops(1)
	for i := range 8 {
		tall.Trans = append(tall.Trans, api.Trans{Name: "u" + strconv.Itoa(i), Prio: i})
	}
	// 6! is below the limit, 7! above it.
	for i, c := range []struct {
		n     api.Net
		count int
		e     api.Errno
	}{
		{api.Net{}, 0, api.ErrName}, {bad, 0, api.ErrTwice}, {wide, 0, api.ErrSize}, {loops(9), 0, api.ErrSize}, {tall, 0, api.ErrSize},
		{loops(6), 720, api.OK}, {loops(7), 0, api.ErrLimit}, {loops(8), 0, api.ErrLimit},
	} {
		l, e := Automorphisms(c.n)
		if e != c.e || len(l) != c.count {
			t.Error(i, len(l), e)
		}
		g, e := Quotient(c.n, 10)
		if e != c.e || (e == api.OK) != g.Complete {
			t.Error(i, g, e)
		}
	}
	// 5! * 3! is below the limit, twice as many are above it.
	n := loops(8)
	n.Trans = nil
	for p := range n.Places {
		n.Places[p].Init = min(p/5, 1)
	}
	if l, e := Automorphisms(n); e != api.OK || len(l) != 720 {
		t.Error(len(l), e)
	}
	n.Trans = []api.Trans{{Name: "t"}, {Name: "u"}}
	if l, e := Automorphisms(n); e != api.ErrLimit || len(l) != 0 {
		t.Error(len(l), e)
	}
}

// TestNoLongSearch has nets with few automorphisms, where many permutations agree in part.
func TestNoLongSearch(t *testing.T) {
	// Each permutation of the places moves the last transition to another one, beside 7 equal transitions.
	n := loops(8)
	for i := range n.Trans {
		n.Trans[i].Pre, n.Trans[i].Post = nil, nil
	}
	for p := range n.Places {
		n.Trans[7].Pre = append(n.Trans[7].Pre, api.Arc{Place: p, W: p + 1})
	}
	if l, e := Automorphisms(n); e != api.ErrLimit || len(l) != 0 {
		t.Error(len(l), e)
	}
	n.Trans = n.Trans[2:]
	if l, e := Automorphisms(n); e != api.OK || len(l) != 120 {
		t.Error(len(l), e)
	}
}

func permutations(k int) [][]int {
	if k == 0 {
		return [][]int{{}}
	}
	var list [][]int
	for _, p := range permutations(k - 1) {
		for at := range k {
			list = append(list, slices.Insert(slices.Clone(p), at, k-1))
		}
	}
	slices.SortFunc(list, slices.Compare[[]int])
	return list
}

func weight(list []api.Arc, p int) int {
	for _, a := range list {
		if a.Place == p {
			return a.W
		}
	}
	return 0
}

// preserves reports whether two permutations form an automorphism.
func preserves(n api.Net, ps, ts []int) bool {
	for p, q := range ps {
		if n.Places[p].Init != n.Places[q].Init || n.Places[p].Cap != n.Places[q].Cap {
			return false
		}
	}
	for t, u := range ts {
		a, b := n.Trans[t], n.Trans[u]
		for p, q := range ps {
			if a.Prio != b.Prio || weight(a.Pre, p) != weight(b.Pre, q) || weight(a.Post, p) != weight(b.Post, q) || weight(a.Inh, p) != weight(b.Inh, q) {
				return false
			}
		}
	}
	return true
}

// symmetric returns random nets, most of which have automorphisms: two copies of a net, joined by chance.
func symmetric(seed uint64) api.Net {
	n := nettest.Random(seed, nettest.Shape{Places: 2, Trans: 2, Tokens: 1, Weight: 2, Prio: int(seed % 2), Inh: int(seed % 3), Cap: int(seed % 5 / 4)})
	places, trans := len(n.Places), len(n.Trans)
	moved := func(list []api.Arc) []api.Arc {
		var arcs []api.Arc
		for _, a := range list {
			arcs = append(arcs, api.Arc{Place: a.Place + places, W: a.W})
		}
		return arcs
	}
	for _, p := range n.Places[:places] {
		p.Name = "q" + p.Name
		n.Places = append(n.Places, p)
	}
	for _, t := range n.Trans[:trans] {
		n.Trans = append(n.Trans, api.Trans{Name: "u" + t.Name, Pre: moved(t.Pre), Post: moved(t.Post), Inh: moved(t.Inh), Prio: t.Prio})
	}
	if seed%7 < 4 && trans > 0 {
		n.Trans[0].Post = append(slices.Clone(n.Trans[0].Post), api.Arc{Place: places, W: 1})
	}
	if seed%7 == 3 && trans > 0 {
		n.Trans[trans].Post = append(arcs(0, 1), slices.DeleteFunc(n.Trans[trans].Post, func(a api.Arc) bool { return a.Place == 0 })...)
	}
	return n
}

func TestAutomorphismsByDefinition(t *testing.T) {
	several := 0
	for seed := range uint64(700) {
		n := symmetric(seed)
		var want [][]int
		for _, ps := range permutations(len(n.Places)) {
			for _, ts := range permutations(len(n.Trans)) {
				if preserves(n, ps, ts) {
					p := slices.Clone(ps)
					for _, u := range ts {
						p = append(p, len(n.Places)+u)
					}
					want = append(want, p)
				}
			}
		}
		l, e := Automorphisms(n)
		if e != api.OK || !sameLists(l, want) {
			t.Fatal(n, l, e)
		}
		if len(l) > 1 {
			several++
		}
		checkGroup(t, l)
	}
	if several < 200 {
		t.Error("too few cases", several)
	}
}

// checkGroup checks that products and inverses of the permutations are among them.
func checkGroup(t *testing.T, ps [][]int) {
	t.Helper()
	has := func(p []int) bool {
		return slices.ContainsFunc(ps, func(q []int) bool { return slices.Equal(p, q) })
	}
	for _, p := range ps {
		if !has(Inverse(p)) || !has(Compose(p, ps[len(ps)-1])) || !slices.Equal(Compose(p, Inverse(p)), ps[0]) {
			t.Fatal(ps)
		}
	}
}

func TestPermutations(t *testing.T) {
	for _, c := range []struct{ p, m, image []int }{
		{[]int{2, 0, 1}, []int{5, 6, 7}, []int{6, 7, 5}},
		{[]int{1, 0, 2}, []int{5, -6}, []int{-6, 5}},
		{[]int{0, 1}, []int{math.MinInt, math.MaxInt}, []int{math.MinInt, math.MaxInt}},
		{[]int{1, 0}, nil, nil},
		{nil, nil, nil},
		{[]int{0}, []int{1, 2}, nil},
		{nil, []int{1}, nil},
		{[]int{2, 1, 0}, []int{1, 2}, nil},
		{[]int{0, 2, 1}, []int{1, 2}, nil},
		{[]int{0, 0}, []int{1, 2}, nil},
		{[]int{0, 1, 1}, []int{1, 2}, nil},
		{[]int{0, 1, 3}, []int{1, 2}, nil},
		{[]int{0, 1, -1}, []int{1, 2}, nil},
		{[]int{-1, 0}, []int{1, 2}, nil},
		{[]int{math.MaxInt, math.MinInt}, []int{1, 2}, nil},
	} {
		if m := Apply(c.p, c.m); !slices.Equal(m, c.image) {
			t.Error(c, m)
		}
	}
	if r := Compose([]int{1, 2, 0}, []int{0, 2, 1}); !slices.Equal(r, []int{1, 0, 2}) {
		t.Error(r)
	}
	if r := Inverse([]int{1, 2, 0}); !slices.Equal(r, []int{2, 0, 1}) {
		t.Error(r)
	}
	good := []int{1, 0}
	for _, p := range [][]int{{0}, {0, 1, 2}, {1, 1}, {0, 2}, {-1, 0}, nil} {
		if len(Compose(p, good)) > 0 || len(Compose(good, p)) > 0 {
			t.Error(p)
		}
	}
	for _, p := range [][]int{{1}, {1, 1}, {0, 2}, {-1, 0}, nil} {
		if len(Inverse(p)) > 0 {
			t.Error(p)
		}
	}
}

func TestOrbit(t *testing.T) {
	ps := [][]int{{1, 0, 2}, {2, 1, 0}, {0, 1}, {3, 1, 2, 0}, {0, 0, 0}, {0, 2, 1}, {1, 0, 2}, {1, 2, 0, 3}}
	m := []int{5, -1, 5}
	if l := Orbit(ps, m); !sameLists(l, [][]int{{-1, 5, 5}, {5, -1, 5}, {5, 5, -1}}) {
		t.Error(l)
	}
	if c := Canonical(ps, m); !slices.Equal(c, []int{-1, 5, 5}) {
		t.Error(c)
	}
	// These are not all permutations of a group: the orbit is no more than what they yield.
	if l := Orbit([][]int{{1, 2, 0}}, []int{1, 2, 3}); !sameLists(l, [][]int{{1, 2, 3}, {3, 1, 2}}) {
		t.Error(l)
	}
	for _, ps := range [][][]int{nil, {nil}, {{0, 1}}, {{2, 1, 0}}} {
		if l := Orbit(ps, []int{7, 6}); !sameLists(l, [][]int{{7, 6}}) {
			t.Error(ps, l)
		}
		if c := Canonical(ps, []int{7, 6}); !slices.Equal(c, []int{7, 6}) {
			t.Error(ps, c)
		}
		if l := Orbit(ps, nil); len(l) != 1 || len(l[0]) != 0 || len(Canonical(ps, nil)) != 0 {
			t.Error(ps, l)
		}
	}
}

func TestCanonicalIsFirst(t *testing.T) {
	r := rand.New(rand.NewSource(18))
	all := permutations(4)
	for range 3000 {
		var ps [][]int
		for range r.Intn(5) {
			ps = append(ps, slices.Clone(all[r.Intn(len(all))]))
			if r.Intn(4) == 0 {
				ps[len(ps)-1][r.Intn(4)] = r.Intn(6) - 1
			}
		}
		m := []int{r.Intn(3), r.Intn(3), r.Intn(3), r.Intn(3)}[:2+r.Intn(3)]
		orbit := [][]int{m}
		for _, p := range ps {
			if image := Apply(p, m); len(image) > 0 && !slices.ContainsFunc(orbit, func(x []int) bool { return slices.Equal(x, image) }) {
				orbit = append(orbit, image)
			}
		}
		slices.SortFunc(orbit, slices.Compare[[]int])
		if l := Orbit(ps, m); !sameLists(l, orbit) {
			t.Fatal(ps, m, l)
		}
		if c := Canonical(ps, m); !slices.Equal(c, orbit[0]) {
			t.Fatal(ps, m, c)
		}
	}
}

func TestQuotientErrors(t *testing.T) {
	full := loops(2)
	full.Places[0].Init, full.Places[1].Init = api.MaxTokens, api.MaxTokens
	full.Trans[0].Post, full.Trans[1].Post = arcs(0, 2), arcs(1, 2)
	for i, c := range []struct {
		n     api.Net
		limit int
		e     api.Errno
	}{
		{api.Net{}, 0, api.ErrName}, {loops(9), 0, api.ErrSize}, {loops(7), 0, api.ErrLimit},
		{loops(2), 0, api.ErrRange}, {loops(2), -1, api.ErrRange}, {loops(2), api.MaxStates + 1, api.ErrRange}, {loops(2), math.MinInt, api.ErrRange},
		{full, 0, api.ErrRange}, {full, 1, api.ErrOver}, {full, 9, api.ErrOver},
		{loops(2), 1, api.OK}, {loops(2), api.MaxStates, api.OK},
	} {
		g, e := Quotient(c.n, c.limit)
		if e != c.e || e != api.OK && (len(g.States) > 0 || len(g.Edges) > 0 || g.Complete) {
			t.Error(i, g, e)
		}
	}
	// Two equal sources: the quotient is cut where the graph of layer 14 would be.
	sources := loops(2)
	sources.Trans[0].Pre, sources.Trans[1].Pre = nil, nil
	g, e := Quotient(sources, 2)
	want := []api.Edge{{From: 0, Trans: 0, To: 1}, {From: 0, Trans: 1, To: 1}}
	if e != api.OK || g.Complete || !sameLists(g.States, [][]int{{1, 1}, {1, 2}}) || !slices.Equal(g.Edges, want) {
		t.Error(g, e)
	}
}

// quotient explores by the definition, with Canonical.
func quotient(n api.Net, limit int) api.Graph {
	ps, _ := Automorphisms(n)
	g := api.Graph{States: [][]int{net.Initial(n)}, Complete: true}
	for i := 0; i < len(g.States); i++ {
		for _, t := range firing.List(n, g.States[i]) {
			m, _ := firing.Fire(n, g.States[i], t)
			m = Canonical(ps, m)
			to := explore.Find(g, m)
			if to < 0 && len(g.States) == limit {
				g.Complete = false
				continue
			}
			if to < 0 {
				to = len(g.States)
				g.States = append(g.States, m)
			}
			g.Edges = append(g.Edges, api.Edge{From: i, Trans: t, To: to})
		}
	}
	return g
}

// TestQuotient checks P18.4 and P18.5 on random nets.
func TestQuotient(t *testing.T) {
	smaller, deadlocks := 0, 0
	for seed := range uint64(4000) {
		n := symmetric(seed)
		g, e := Quotient(n, 100)
		want := quotient(n, 100)
		if e != api.OK || g.Complete != want.Complete || !sameLists(g.States, want.States) || !slices.Equal(g.Edges, want.Edges) {
			t.Fatal(n, g, e)
		}
		full, _ := explore.Explore(n, 100)
		if !g.Complete || !full.Complete {
			continue
		}
		ps, _ := Automorphisms(n)
		var states [][]int
		for _, m := range full.States {
			states = append(states, Canonical(ps, m))
			for _, p := range ps {
				checkImage(t, n, ps, p, m)
			}
		}
		sorted := slices.SortedFunc(slices.Values(g.States), slices.Compare[[]int])
		slices.SortFunc(states, slices.Compare[[]int])
		if !sameLists(sorted, slices.CompactFunc(states, slices.Equal[[]int])) {
			t.Fatal(n, g)
		}
		isDead := func(m []int) bool { return firing.Dead(n, m) }
		if slices.ContainsFunc(g.States, isDead) != slices.ContainsFunc(full.States, isDead) {
			t.Fatal(n, g)
		}
		if len(g.States) < len(full.States) {
			smaller++
		}
		if slices.ContainsFunc(g.States, isDead) {
			deadlocks++
		}
	}
	if smaller < 100 || deadlocks < 100 {
		t.Error("too few cases", smaller, deadlocks)
	}
}

// checkImage checks that what may fire at a marking corresponds to what may fire at its image, and that both have one canonical marking.
func checkImage(t *testing.T, n api.Net, ps [][]int, p, m []int) {
	t.Helper()
	image := Apply(p, m)
	for u := range n.Trans {
		if firing.May(n, m, u) != firing.May(n, image, p[len(n.Places)+u]-len(n.Places)) {
			t.Fatal(n, p, m, u)
		}
	}
	if !slices.Equal(Canonical(ps, m), Canonical(ps, image)) {
		t.Fatal(n, p, m)
	}
}

func TestSharesNoMemory(t *testing.T) {
	ps, m := [][]int{{1, 0}}, []int{2, 1}
	l := Orbit(ps, m)
	l[0][0], l[1][0] = 9, 9
	Canonical(nil, m)[0] = 9
	Apply([]int{0, 1}, m)[0] = 9
	Inverse(ps[0])[0] = 9
	Compose(ps[0], ps[0])[0] = 9
	if !slices.Equal(m, []int{2, 1}) || !slices.Equal(ps[0], []int{1, 0}) {
		t.Error(ps, m)
	}
	all, _ := Automorphisms(loops(3))
	for _, p := range all {
		p = append(p, 9)
		for i := range p {
			p[i] = 9
		}
	}
	fresh, _ := Automorphisms(loops(3))
	if !slices.Equal(fresh[0], []int{0, 1, 2, 3, 4, 5}) || !slices.Equal(fresh[5], []int{2, 1, 0, 5, 4, 3}) {
		t.Error(fresh)
	}
	g, _ := Quotient(loops(2), 10)
	g.States[0][0] = 9
}
