package backward

import (
	"math"
	"math/rand"
	"slices"
	"testing"

	"petrinet/api"
	"petrinet/firing"
	"petrinet/karpmiller"
	"petrinet/marking"
	"petrinet/nettest"
	"petrinet/omega"
	"petrinet/upset"
)

var arcs = nettest.Arcs

func same(a, b [][]int) bool {
	return slices.EqualFunc(a, b, slices.Equal[[]int])
}

// mover moves a token from p to q.
func mover() api.Net {
	return api.Net{Name: "n", Places: []api.Place{{Name: "p", Init: 1}, {Name: "q"}}, Trans: []api.Trans{{Name: "t", Pre: arcs(0, 1), Post: arcs(1, 1)}}}
}

// source produces one token on p.
func source() api.Net {
	return api.Net{Name: "n", Places: []api.Place{{Name: "p"}}, Trans: []api.Trans{{Name: "t", Post: arcs(0, 1)}}}
}

// faulty yields nets with an error, and the error.
func faulty(yield func(api.Net, api.Errno) bool) {
	for i, change := range []func(n *api.Net){
		func(n *api.Net) { n.Places[0].Cap = 5 },
		func(n *api.Net) { n.Trans[0].Prio = 1 },
		func(n *api.Net) { n.Trans[0].Inh = arcs(1, 1) },
		func(n *api.Net) { n.Trans[0].Name = "p" },
	} {
		n := mover()
		change(&n)
		e := api.ErrKind
		if i == 3 {
			e = api.ErrTwice
		}
		if !yield(n, e) {
			return
		}
	}
}

func TestPred(t *testing.T) {
	n := api.Net{Name: "n", Places: []api.Place{{Name: "p"}, {Name: "q"}, {Name: "r"}}, Trans: []api.Trans{{Name: "t", Pre: arcs(0, 2, 1, 3), Post: arcs(1, 1, 2, 4)}, {Name: "u"}}}
	for _, c := range []struct{ m, want []int }{
		{[]int{0, 0, 0}, []int{2, 3, 0}},
		{[]int{1, 1, 3}, []int{3, 3, 0}},
		{[]int{5, 2, 4}, []int{7, 4, 0}},
		{[]int{5, 9, 9}, []int{7, 11, 5}},
		{[]int{api.MaxTokens - 2, api.MaxTokens - 2, api.MaxTokens}, []int{api.MaxTokens, api.MaxTokens, api.MaxTokens - 4}},
		{[]int{api.MaxTokens - 1, 0, 0}, nil},
		{[]int{0, api.MaxTokens - 1, 0}, nil},
	} {
		before := slices.Clone(c.m)
		if m := Pred(n, c.m, 0); !slices.Equal(m, c.want) || !slices.Equal(c.m, before) {
			t.Error(c.m, m)
		}
		m := Pred(n, c.m, 1)
		if !slices.Equal(m, c.m) {
			t.Error(c.m, m)
		}
		m[0] = -1
		if !slices.Equal(c.m, before) {
			t.Error("the result shares memory with the argument")
		}
	}
	for _, i := range []int{-1, 2, math.MinInt, math.MaxInt} {
		if m := Pred(n, []int{0, 0, 0}, i); len(m) != 0 {
			t.Error("a transition that does not exist", i, m)
		}
	}
	for _, m := range [][]int{nil, {0, 0}, {0, 0, 0, 0}, {0, -1, 0}, {0, 0, api.MaxTokens + 1}} {
		if l := Pred(n, m, 0); len(l) != 0 {
			t.Error("an invalid marking", m, l)
		}
	}
	for n := range faulty {
		if len(Pred(n, []int{0, 0}, 0)) != 0 || len(Step(n, [][]int{{0, 0}})) != 0 {
			t.Error(n)
		}
	}
}

// leastBefore searches the least marking at which t is enabled and after which the marking is at least m.
func leastBefore(n api.Net, m []int, t int) []int {
	var found [][]int
	var search func(prefix []int)
	search = func(prefix []int) {
		if len(prefix) < len(m) {
			for k := range 8 {
				search(append(slices.Clone(prefix), k))
			}
			return
		}
		if after, e := firing.Fire(n, prefix, t); e == api.OK && marking.Leq(m, after) {
			found = append(found, prefix)
		}
	}
	search(nil)
	if minimal := upset.Make(found); len(minimal) == 1 {
		return minimal[0]
	}
	return nil
}

func TestPredIsLeast(t *testing.T) {
	r := rand.New(rand.NewSource(24))
	for seed := range uint64(150) {
		n := nettest.Random(seed, nettest.Shape{Places: 3, Trans: 3, Weight: 3})
		m := make([]int, len(n.Places))
		for p := range m {
			m[p] = r.Intn(4)
		}
		for i := range n.Trans {
			if got, want := Pred(n, m, i), leastBefore(n, m, i); !slices.Equal(got, want) {
				t.Fatal(n, m, i, got, want)
			}
		}
	}
}

func TestStep(t *testing.T) {
	n := mover()
	for _, c := range []struct{ u, want [][]int }{
		{nil, nil},
		{[][]int{{0, 1}}, [][]int{{0, 1}, {1, 0}}},
		{[][]int{{0, 2}}, [][]int{{0, 2}, {1, 1}}},
		{[][]int{{0, 2}, {1, 1}}, [][]int{{0, 2}, {1, 1}, {2, 0}}},
		// Elements that are no markings of the net are left out, also where they determine the length of the list.
		{[][]int{{0}, {5, -1}, {0, 2}, {0, 3}, {api.MaxTokens + 1, 0}, {0, 0, 0}}, [][]int{{0, 2}, {1, 1}}},
		{[][]int{{3}}, nil},
		{[][]int{{api.MaxTokens, 0}}, [][]int{{api.MaxTokens, 0}}},
	} {
		before := slices.Clone(c.u)
		if u := Step(n, c.u); !same(u, c.want) || !same(c.u, before) {
			t.Error(before, u, c.u)
		}
	}
}

func TestBasis(t *testing.T) {
	for i, c := range []struct {
		n       api.Net
		target  [][]int
		basis   [][]int
		changes int
	}{
		{source(), [][]int{{2}}, [][]int{{0}}, 2},
		{source(), [][]int{{0}}, [][]int{{0}}, 0},
		{source(), [][]int{{5}, {3}, {9}}, [][]int{{0}}, 3},
		{mover(), [][]int{{0, 1}}, [][]int{{0, 1}, {1, 0}}, 1},
		{mover(), [][]int{{0, 3}}, [][]int{{0, 3}, {1, 2}, {2, 1}, {3, 0}}, 3},
		{mover(), [][]int{{2, 0}}, [][]int{{2, 0}}, 0},
		{api.Net{Name: "n", Places: []api.Place{{Name: "p"}}}, [][]int{{4}, {2}}, [][]int{{2}}, 0},
	} {
		basis, changes, e := Basis(c.n, c.target, 4)
		if !same(basis, c.basis) || changes != c.changes || e != api.OK {
			t.Errorf("case %d: %v %d %d", i, basis, changes, e)
		}
	}
	target := [][]int{{0, 1}}
	basis, _, _ := Basis(mover(), target, 9)
	basis[0][1] = 7
	if target[0][1] != 1 {
		t.Error("the result shares memory with the argument")
	}
}

func TestBasisErrors(t *testing.T) {
	valid := [][]int{{0, 1}}
	for i, c := range []struct {
		n      api.Net
		target [][]int
		limit  int
		e      api.Errno
	}{
		{api.Net{}, nil, 0, api.ErrName},
		{mover(), nil, 0, api.ErrSize},
		{mover(), [][]int{{0, 1}, {0}}, 0, api.ErrSize},
		{mover(), [][]int{{0, -1}}, 5, api.ErrSize},
		{mover(), [][]int{{0, 1}, {api.MaxTokens + 1, 1}}, 5, api.ErrSize},
		{mover(), valid, 0, api.ErrRange},
		{mover(), valid, 1001, api.ErrRange},
		{mover(), valid, math.MinInt, api.ErrRange},
		{mover(), valid, 1000, api.OK},
		{mover(), [][]int{{0, 1}, {1, 0}}, 1, api.ErrLimit},
		{mover(), [][]int{{0, 1}, {0, 2}}, 2, api.OK},
		{mover(), [][]int{{0, 3}}, 3, api.ErrLimit},
		{mover(), [][]int{{0, 3}}, 4, api.OK},
		// The predecessor needs one token more than MaxTokens.
		{mover(), [][]int{{api.MaxTokens, 0}}, 9, api.ErrOver},
		{mover(), [][]int{{api.MaxTokens, 0}, {0, 0}}, 9, api.OK},
		{mover(), [][]int{{api.MaxTokens, 0}, {0, 1}}, 1, api.ErrLimit},
		{mover(), [][]int{{api.MaxTokens - 1, 2}}, 9, api.ErrOver},
		// The error of the second set, after the first one reaches the limit.
		{mover(), [][]int{{api.MaxTokens - 1, 2}}, 1, api.ErrLimit},
		// Of one set, a predecessor that exceeds comes before the limit.
		{mover(), [][]int{{api.MaxTokens, 0}, {0, 3}}, 2, api.ErrOver},
	} {
		if basis, changes, e := Basis(c.n, c.target, c.limit); e != c.e || e != api.OK && (len(basis) != 0 || changes != 0) {
			t.Errorf("case %d: %v %d %d", i, basis, changes, e)
		}
		if ok, e := Coverable(c.n, c.target, c.limit); e != c.e || e != api.OK && ok {
			t.Errorf("case %d: Coverable %t %d", i, ok, e)
		}
	}
	for n, want := range faulty {
		if _, _, e := Basis(n, nil, 0); e != want {
			t.Error(n, e)
		}
		if _, e := Coverable(n, nil, 0); e != want {
			t.Error(n, e)
		}
		if l, e := Never(n, 0); len(l) != 0 || e != want {
			t.Error(n, e)
		}
	}
}

func TestCoverable(t *testing.T) {
	n := mover()
	for _, c := range []struct {
		target [][]int
		want   bool
	}{
		{[][]int{{1, 0}}, true},
		{[][]int{{0, 1}}, true},
		{[][]int{{1, 1}}, false},
		{[][]int{{0, 2}}, false},
		{[][]int{{0, 2}, {1, 1}, {0, 1}}, true},
		{[][]int{{0, 0}}, true},
	} {
		if ok, e := Coverable(n, c.target, 100); ok != c.want || e != api.OK {
			t.Error(c.target, ok, e)
		}
	}
}

func TestNever(t *testing.T) {
	n := mover()
	n.Trans = append(n.Trans, api.Trans{Name: "u", Pre: arcs(0, 1, 1, 1)}, api.Trans{Name: "v", Pre: arcs(1, 1)}, api.Trans{Name: "x", Pre: arcs(1, 2)}, api.Trans{Name: "y"})
	if l, e := Never(n, 100); !slices.Equal(l, []int{1, 3}) || e != api.OK {
		t.Error(l, e)
	}
	for _, limit := range []int{0, -1, 1001} {
		if l, e := Never(n, limit); len(l) != 0 || e != api.ErrRange {
			t.Error(limit, l, e)
		}
		if l, e := Never(api.Net{Name: "n", Places: []api.Place{{Name: "p"}}}, limit); len(l) != 0 || e != api.ErrRange {
			t.Error(limit, l, e)
		}
	}
	// The basis of one token on q has two elements.
	if l, e := Never(n, 1); len(l) != 0 || e != api.ErrLimit {
		t.Error(l, e)
	}
	if l, e := Never(api.Net{Name: "n", Places: []api.Place{{Name: "p"}}}, 1); len(l) != 0 || e != api.OK {
		t.Error(l, e)
	}
}

// expected applies Step as often as the document says.
func expected(n api.Net, target [][]int, limit int) ([][]int, int, api.Errno) {
	set := upset.Make(target)
	if len(set) > limit {
		return nil, 0, api.ErrLimit
	}
	for changes := 0; ; changes++ {
		for _, m := range set {
			for i := range n.Trans {
				if len(Pred(n, m, i)) == 0 {
					return nil, 0, api.ErrOver
				}
			}
		}
		next := Step(n, set)
		if len(next) > limit {
			return nil, 0, api.ErrLimit
		}
		if same(next, set) {
			return set, changes, api.OK
		}
		set = next
	}
}

func TestRandomNets(t *testing.T) {
	r := rand.New(rand.NewSource(25))
	covered, complete := 0, 0
	for seed := range uint64(500) {
		n := nettest.Random(seed, nettest.Shape{Places: 4, Trans: 4, Tokens: 2, Weight: 2})
		tree, ok, e := karpmiller.Tree(n, 2000)
		for range 4 {
			target := make([][]int, 1+r.Intn(2))
			for i := range target {
				for range n.Places {
					target[i] = append(target[i], r.Intn(4))
				}
			}
			limit := 1 + r.Intn(40)
			basis, changes, f := Basis(n, target, limit)
			want, wantChanges, wantE := expected(n, target, limit)
			if !same(basis, want) || changes != wantChanges || f != wantE {
				t.Fatal(n, target, basis, changes, f)
			}
			if f != api.OK {
				continue
			}
			checkBasis(t, n, target, basis)
			if !ok || e != api.OK {
				continue
			}
			complete++
			possible := slices.ContainsFunc(tree, func(x api.Node) bool {
				return slices.ContainsFunc(target, func(m []int) bool { return omega.Covers(x.M, m) })
			})
			if got, e := Coverable(n, target, limit); got != possible || e != api.OK {
				t.Fatal("Coverable differs from the tree", n, target, got, e)
			}
			if possible {
				covered++
			}
		}
	}
	if complete < 500 || covered < 100 || covered > complete-100 {
		t.Error("the nets do not test much", complete, covered)
	}
}

// checkBasis checks that the set is closed under predecessors and contains the target, and that the target is reachable from each element.
func checkBasis(t *testing.T, n api.Net, target, basis [][]int) {
	t.Helper()
	if !upset.Subset(target, basis) || !upset.Valid(basis, len(n.Places)) {
		t.Fatal("target", n, target, basis)
	}
	for _, m := range basis {
		for i := range n.Trans {
			if before := Pred(n, m, i); len(before) > 0 && !upset.Has(basis, before) {
				t.Fatal("not closed", n, target, basis)
			}
		}
		n := n
		n.Places = slices.Clone(n.Places)
		for p := range m {
			n.Places[p].Init = m[p]
		}
		markings, all := nettest.Reachable(n, 500)
		if !slices.ContainsFunc(markings, func(m []int) bool { return upset.Has(target, m) }) && all {
			t.Fatal("the target cannot be reached", n, m, target)
		}
	}
}

func TestNeverOfRandomNets(t *testing.T) {
	found := 0
	for seed := range uint64(300) {
		n := nettest.Random(seed, nettest.Shape{Places: 4, Trans: 4, Tokens: 1, Weight: 2})
		l, e := Never(n, 1000)
		markings, all := nettest.Reachable(n, 500)
		if e != api.OK || !all {
			continue
		}
		for i := range n.Trans {
			enabled := slices.ContainsFunc(markings, func(m []int) bool { return firing.Enabled(n, m, i) })
			if enabled == slices.Contains(l, i) {
				t.Fatal(n, l)
			}
		}
		found += len(l)
	}
	if found < 20 {
		t.Error("too few transitions", found)
	}
}

func TestManySteps(t *testing.T) {
	n := source()
	if basis, changes, e := Basis(n, [][]int{{api.MaxTokens}}, 1); !same(basis, [][]int{{0}}) || changes != api.MaxTokens || e != api.OK {
		t.Error(basis, changes, e)
	}
}

func TestManyElements(t *testing.T) {
	target := [][]int{{0, 999}}
	basis, changes, e := Basis(mover(), target, 1000)
	if len(basis) != 1000 || changes != 999 || e != api.OK {
		t.Fatal(len(basis), changes, e)
	}
	for i, m := range basis {
		if !slices.Equal(m, []int{i, 999 - i}) {
			t.Fatal(i, m)
		}
	}
	if basis, changes, e := Basis(mover(), target, 999); len(basis) != 0 || changes != 0 || e != api.ErrLimit {
		t.Error(basis, changes, e)
	}
}
