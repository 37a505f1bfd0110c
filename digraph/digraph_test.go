package digraph

import (
	"math"
	"slices"
	"testing"
)

// example has the edges 0 to 1, 1 to 0 and 1 to 2.
var example = [][]int{{1}, {0, 2}, nil}

// untidy has the edges of example, and elements that are ignored.
var untidy = [][]int{{7, 1, -1, 1}, {2, 0, 2, 3, math.MinInt}, {math.MaxInt}}

// small calls do with every graph of n vertices, whose lists are ascending.
func small(n int, do func(g [][]int)) {
	for edges := range 1 << (n * n) {
		g := make([][]int, n)
		for i := range n * n {
			if edges>>i&1 == 1 {
				g[i/n] = append(g[i/n], i%n)
			}
		}
		do(g)
	}
}

// closure tells for all pairs of vertices whether there is a path of length 1 or more.
func closure(g [][]int) [][]bool {
	path := make([][]bool, len(g))
	for v := range g {
		path[v] = make([]bool, len(g))
		for _, w := range g[v] {
			path[v][w] = true
		}
	}
	for k := range g {
		for i := range g {
			for j := range g {
				path[i][j] = path[i][j] || path[i][k] && path[k][j]
			}
		}
	}
	return path
}

// long is a path of n vertices that is closed to a cycle.
func long(n int) [][]int {
	g := make([][]int, n)
	for v := range g {
		g[v] = []int{(v + 1) % n}
	}
	return g
}

func TestValid(t *testing.T) {
	for _, g := range [][][]int{nil, {nil}, {{0}}, example, {{0, 1}, {}}} {
		if !Valid(g) {
			t.Error("valid", g)
		}
	}
	for _, g := range [][][]int{{{1}}, {{-1}}, {{0, 0}}, {{1, 0}, nil}, untidy} {
		if Valid(g) {
			t.Error("not valid", g)
		}
	}
}

func TestReverse(t *testing.T) {
	for _, g := range [][][]int{example, untidy} {
		back := Reverse(g)
		if !slices.EqualFunc(back, [][]int{{1}, {0}, {1}}, slices.Equal[[]int]) {
			t.Error("Reverse", g, back)
		}
	}
	small(3, func(g [][]int) {
		if twice := Reverse(Reverse(g)); !Valid(Reverse(g)) || !slices.EqualFunc(g, twice, slices.Equal[[]int]) {
			t.Error("Reverse of Reverse", g, twice)
		}
	})
	if len(Reverse(nil)) != 0 {
		t.Error("Reverse of the empty graph")
	}
}

func TestReachAndCyclic(t *testing.T) {
	small(3, func(g [][]int) {
		path := closure(g)
		for v := range g {
			if Cyclic(g, v) != path[v][v] {
				t.Error("Cyclic", g, v)
			}
			for w, reached := range Reach(g, v) {
				if reached != (v == w || path[v][w]) {
					t.Error("Reach", g, v, w)
				}
			}
		}
	})
	if l := Reach(untidy, 2, 9, -1, 2); !slices.Equal(l, []bool{false, false, true}) {
		t.Error("Reach with numbers that are not vertices", l)
	}
	if l := Reach(example); !slices.Equal(l, make([]bool, 3)) {
		t.Error("Reach from nowhere", l)
	}
	if l := Reach([][]int{{2}, {2}, nil, {3}}, 0, 1); !slices.Equal(l, []bool{true, true, true, false}) {
		t.Error("Reach from several vertices", l)
	}
	if len(Reach(nil, 0)) != 0 || Cyclic(nil, 0) || Cyclic(example, -1) || Cyclic(example, 3) || !Cyclic(untidy, 0) || Cyclic(untidy, 2) {
		t.Error("Reach and Cyclic at the edges")
	}
}

func TestComponentsAndBottom(t *testing.T) {
	for _, g := range [][][]int{example, untidy} {
		if l := Components(g); !slices.Equal(l, []int{0, 0, 2}) {
			t.Error("Components", g, l)
		}
		if l := Bottom(g); !slices.Equal(l, []int{2}) {
			t.Error("Bottom", g, l)
		}
	}
	if len(Components(nil)) != 0 || len(Bottom(nil)) != 0 {
		t.Error("components of the empty graph")
	}
	if l := Bottom([][]int{{0}, {2}, {1}, {0, 1}, nil}); !slices.Equal(l, []int{0, 1, 4}) {
		t.Error("Bottom of several components", l)
	}
	small(3, func(g [][]int) { checkComponents(t, g) })
	for seed := range 200 {
		checkComponents(t, mixed(8, seed))
	}
}

// mixed is a graph of n vertices and a few edges that depend on seed.
func mixed(n, seed int) [][]int {
	g := make([][]int, n)
	x := uint32(seed)
	for range n + seed%n {
		x = x*1664525 + 1013904223
		g[x>>8%uint32(n)] = append(g[x>>8%uint32(n)], int(x>>16%uint32(n)))
	}
	return g
}

func checkComponents(t *testing.T, g [][]int) {
	t.Helper()
	path := closure(g)
	component := Components(g)
	bottom := Bottom(g)
	reachesBottom := func(v int) bool {
		return slices.ContainsFunc(bottom, func(b int) bool { return b == v || path[v][b] })
	}
	for v := range g {
		least, final := v, true
		for w := range g {
			together := v == w || path[v][w] && path[w][v]
			if together && w < least {
				least = w
			}
			if (component[v] == component[w]) != together {
				t.Error("two vertices are in one component exactly if each is reachable from the other", g, v, w)
			}
			final = final && (!path[v][w] || together)
		}
		if component[v] != least || slices.Contains(bottom, v) != (final && v == least) || !reachesBottom(v) {
			t.Error("least vertices and bottom components", g, v, component, bottom)
		}
	}
}

func TestTopo(t *testing.T) {
	for _, x := range []struct {
		g    [][]int
		want []int
		ok   bool
	}{
		{nil, nil, true}, {[][]int{nil, {0}, {0}}, []int{1, 2, 0}, true}, {[][]int{{0}}, nil, false}, {example, nil, false},
		{[][]int{{9, 2, 2, -4}, nil, nil}, []int{0, 1, 2}, true}, {[][]int{nil, nil, {0}, {1}}, []int{2, 0, 3, 1}, true}, {[][]int{nil, {2}, {1}}, nil, false},
	} {
		if l, ok := Topo(x.g); !slices.Equal(l, x.want) || ok != x.ok {
			t.Error("Topo", x.g, l, ok)
		}
	}
	small(3, func(g [][]int) {
		want, possible := leastOrder(g)
		if l, ok := Topo(g); !slices.Equal(l, want) || ok != possible {
			t.Error("Topo", g, l, ok)
		}
	})
}

// leastOrder follows the words of the promise step by step.
func leastOrder(g [][]int) ([]int, bool) {
	back := Reverse(g)
	var order []int
	mayCome := func(v int) bool {
		if slices.Contains(order, v) {
			return false
		}
		return !slices.ContainsFunc(back[v], func(w int) bool { return !slices.Contains(order, w) })
	}
	for range g {
		next := 0
		for next < len(g) && !mayCome(next) {
			next++
		}
		if next == len(g) {
			return nil, false
		}
		order = append(order, next)
	}
	return order, true
}

func TestPath(t *testing.T) {
	for _, x := range []struct {
		g        [][]int
		from, to int
		want     []int
		ok       bool
	}{
		{example, 0, 2, []int{0, 1, 2}, true}, {untidy, 0, 2, []int{0, 1, 2}, true}, {example, 2, 0, nil, false}, {example, 2, 2, []int{2}, true}, {example, 0, 0, []int{0}, true},
		{example, 0, 3, nil, false}, {example, -1, 0, nil, false}, {nil, 0, 0, nil, false}, {example, math.MaxInt, math.MinInt, nil, false},
		{[][]int{{2, 1}, {3}, {3}, nil}, 0, 3, []int{0, 1, 3}, true}, {[][]int{{1, 3}, {2}, {3}, nil}, 0, 3, []int{0, 3}, true},
		{[][]int{{4, 3}, nil, {1}, {2}, {2, 1}}, 0, 1, []int{0, 4, 1}, true},
	} {
		if l, ok := Path(x.g, x.from, x.to); !slices.Equal(l, x.want) || ok != x.ok {
			t.Error("Path", x.g, x.from, x.to, l, ok)
		}
	}
	small(3, func(g [][]int) {
		for from := range g {
			for to := range g {
				want, possible := leastPath(g, from, to)
				if l, ok := Path(g, from, to); !slices.Equal(l, want) || ok != possible {
					t.Error("Path", g, from, to, l, ok)
				}
			}
		}
	})
}

// leastPath lists all paths by their lengths, in lexicographic order.
func leastPath(g [][]int, from, to int) ([]int, bool) {
	paths := [][]int{{from}}
	for range g {
		var longer [][]int
		for _, p := range paths {
			if p[len(p)-1] == to {
				return p, true
			}
			for _, w := range g[p[len(p)-1]] {
				longer = append(longer, append(slices.Clone(p), w))
			}
		}
		paths = longer
	}
	return nil, false
}

func TestLongPaths(t *testing.T) {
	const n = 1 << 20
	g := long(n)
	if l := Reach(g, 5); slices.Contains(l, false) {
		t.Error("Reach of a long path")
	}
	if !Cyclic(g, n-1) {
		t.Error("Cyclic of a long path")
	}
	if l := Components(g); slices.Max(l) != 0 {
		t.Error("Components of a long path")
	}
	if l := Bottom(g); !slices.Equal(l, []int{0}) {
		t.Error("Bottom of a long path", l)
	}
	if l, ok := Path(g, 1, 0); len(l) != n || !ok {
		t.Error("Path of a long path", len(l), ok)
	}
	g[n-1] = nil
	if l, ok := Topo(g); len(l) != n || !slices.IsSorted(l) || !ok {
		t.Error("Topo of a long path", len(l), ok)
	}
}

func TestArgumentsStay(t *testing.T) {
	g := [][]int{{2, 1, 1}, {0, 9}, nil}
	from := []int{2, 0, 9}
	back := Reverse(g)
	back[1][0] = 7
	Reach(g, from...)[0] = false
	Components(g)
	Bottom(g)
	Topo(g)
	Path(g, 0, 2)
	Cyclic(g, 0)
	if !slices.EqualFunc(g, [][]int{{2, 1, 1}, {0, 9}, nil}, slices.Equal[[]int]) || !slices.Equal(from, []int{2, 0, 9}) {
		t.Error("an argument was changed", g, from)
	}
}
