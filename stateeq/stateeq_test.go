package stateeq

import (
	"math"
	"math/rand"
	"slices"
	"testing"

	"petrinet/api"
	"petrinet/firing"
	"petrinet/marking"
	"petrinet/net"
	"petrinet/nettest"
	"petrinet/simplex"
	"petrinet/siphon"
)

var arcs = nettest.Arcs

// cycle has two places with one token, and two opposite transitions.
func cycle() api.Net {
	n := nettest.Ordinary(2, [2][]int{{0}, {1}}, [2][]int{{1}, {0}})
	n.Places[0].Init = 1
	return n
}

// weighted takes two tokens from p0 for three on p1, and puts one back for each token of p1.
func weighted() api.Net {
	n := nettest.Ordinary(2, [2][]int{{0}, {1}}, [2][]int{{1}, {0}})
	n.Places[0].Init = 3
	n.Trans[0].Pre, n.Trans[0].Post = arcs(0, 2), arcs(1, 3)
	return n
}

// many has 17 transitions, one more than a linear program has variables.
func many() api.Net {
	var trans [][2][]int
	for range api.MaxVars2 + 1 {
		trans = append(trans, [2][]int{{0}, {1}})
	}
	return nettest.Ordinary(2, trans...)
}

// idle has no transitions.
func idle() api.Net {
	n := nettest.Ordinary(2)
	n.Places[1].Init = 4
	return n
}

// keeping moves a token from p0 to p1, or takes one from both and puts one on p0: there is always a token, although the marking equation permits to lose it.
func keeping() api.Net {
	n := nettest.Ordinary(2, [2][]int{{0}, {1}}, [2][]int{{0, 1}, {0}})
	n.Places[0].Init = 1
	return n
}

func TestRows(t *testing.T) {
	rat := func(x int64) api.Rat { return api.Rat{Num: x, Den: 1} }
	rows, e := Rows(weighted(), []int{1, 5})
	want := []api.Row{{Coef: []api.Rat{rat(-2), rat(1)}, Rel: api.Eq, Bound: rat(-2)}, {Coef: []api.Rat{rat(3), rat(-1)}, Rel: api.Eq, Bound: rat(5)}}
	if e != api.OK || !slices.EqualFunc(rows, want, func(a, b api.Row) bool {
		return slices.Equal(a.Coef, b.Coef) && a.Rel == b.Rel && a.Bound == b.Bound
	}) {
		t.Error(rows, e)
	}
	if rows, e := Rows(idle(), []int{0, 0}); e != api.OK || len(rows) != 0 {
		t.Error(rows, e)
	}
	if rows, e := Rows(many(), []int{0, 0}); e != api.OK || len(rows) != 2 || len(rows[0].Coef) != 17 {
		t.Error(rows, e)
	}
}

// All functions begin with the same errors, before those of their own.
func TestErrors(t *testing.T) {
	prior := many()
	prior.Trans[0].Prio = 1
	for i, c := range []struct {
		n      api.Net
		target []int
		e      api.Errno
	}{
		{api.Net{}, nil, api.ErrName},
		{prior, nil, api.ErrKind},
		{many(), nil, api.ErrSize},
		{many(), []int{0}, api.ErrSize},
		{many(), []int{0, 0, 0}, api.ErrSize},
		{many(), []int{-1, 0}, api.ErrSize},
		{many(), []int{0, api.MaxTokens + 1}, api.ErrSize},
		{idle(), []int{api.Omega, 0}, api.ErrSize},
	} {
		if rows, e := Rows(c.n, c.target); e != c.e || len(rows) != 0 {
			t.Errorf("case %d: Rows %v %v", i, rows, e)
		}
		if ok, e := Rational(c.n, c.target); e != c.e || ok {
			t.Errorf("case %d: Rational %v %v", i, ok, e)
		}
		if x, ok, e := Natural(c.n, c.target, -1); e != c.e || ok || len(x) != 0 {
			t.Errorf("case %d: Natural %v %v %v", i, x, ok, e)
		}
		if set, e := Trap(c.n, c.target); e != c.e || set != 0 {
			t.Errorf("case %d: Trap %v %v", i, set, e)
		}
		if v, e := Verdict(c.n, c.target); e != c.e || v != 0 {
			t.Errorf("case %d: Verdict %v %v", i, v, e)
		}
	}
}

func TestRational(t *testing.T) {
	half := nettest.Ordinary(1, [2][]int{nil, {0}})
	half.Trans[0].Post = arcs(0, 2)
	fewer := many()
	fewer.Trans = fewer.Trans[1:]
	for i, c := range []struct {
		n      api.Net
		target []int
		want   bool
		e      api.Errno
	}{
		{cycle(), []int{1, 0}, true, api.OK},
		{cycle(), []int{0, 1}, true, api.OK},
		{cycle(), []int{1, 1}, false, api.OK},
		{cycle(), []int{0, 0}, false, api.OK},
		// Half of the transition is needed, and a negative number of it is none.
		{half, []int{1}, true, api.OK},
		{half, []int{0}, true, api.OK},
		{nettest.Ordinary(1, [2][]int{{0}, nil}), []int{1}, false, api.OK},
		{idle(), []int{0, 4}, true, api.OK},
		{idle(), []int{0, 3}, false, api.OK},
		{many(), []int{0, 0}, false, api.ErrSize},
		{fewer, []int{0, 0}, true, api.OK},
		{fewer, []int{1, 0}, false, api.OK},
	} {
		if ok, e := Rational(c.n, c.target); ok != c.want || e != c.e {
			t.Errorf("case %d: %v %v", i, ok, e)
		}
	}
}

func TestNatural(t *testing.T) {
	wide := nettest.Ordinary(1, [2][]int{nil, {0}}, [2][]int{nil, {0}}, [2][]int{nil, {0}})
	far := cycle()
	far.Places[0].Init = 10001
	for i, c := range []struct {
		n      api.Net
		target []int
		k      int
		want   []int64
		ok     bool
		e      api.Errno
	}{
		{cycle(), []int{0, 1}, 5, []int64{1, 0}, true, api.OK},
		{cycle(), []int{1, 0}, 0, []int64{0, 0}, true, api.OK},
		{cycle(), []int{0, 1}, 0, nil, false, api.OK},
		{cycle(), []int{1, 1}, 100, nil, false, api.OK},
		{wide, []int{3}, 2, []int64{0, 1, 2}, true, api.OK},
		{wide, []int{3}, 1, []int64{1, 1, 1}, true, api.OK},
		{wide, []int{4}, 1, nil, false, api.OK},
		{weighted(), []int{1, 1}, 9, nil, false, api.OK},
		{weighted(), []int{2, 2}, 9, []int64{1, 1}, true, api.OK},
		{idle(), []int{0, 4}, 0, nil, true, api.OK},
		{idle(), []int{0, 4}, 1000, nil, true, api.OK},
		{idle(), []int{0, 5}, 1000, nil, false, api.OK},
		{idle(), []int{0, 4}, 1001, nil, false, api.ErrRange},
		{cycle(), []int{0, 1}, -1, nil, false, api.ErrRange},
		{cycle(), []int{0, 1}, 1001, nil, false, api.ErrRange},
		{cycle(), []int{0, 1}, math.MaxInt, nil, false, api.ErrRange},
		{cycle(), []int{0, 1}, math.MinInt, nil, false, api.ErrRange},
		// The errors of natural.Check.
		{cycle(), []int{0, 1}, 1000, nil, false, api.ErrLimit},
		{wide, []int{3}, 46, nil, false, api.ErrLimit},
		{far, []int{0, 0}, 5, nil, false, api.ErrRange},
		{far, []int{1, 0}, 5, nil, false, api.OK},
		{cycle(), []int{0, 10001}, 1000, nil, false, api.ErrRange},
	} {
		x, ok, e := Natural(c.n, c.target, c.k)
		if e != c.e || ok != c.ok || !slices.Equal(x, c.want) {
			t.Errorf("case %d: %v %v %v", i, x, ok, e)
		}
	}
}

func TestTrapVerdict(t *testing.T) {
	if Unknown != 0 || Equation != 1 || ByTrap != 2 {
		t.Error("the constants")
	}
	for i, c := range []struct {
		n       api.Net
		target  []int
		trap    uint64
		e       api.Errno
		verdict int
		f       api.Errno
	}{
		{cycle(), []int{0, 0}, 3, api.OK, Equation, api.OK},
		{cycle(), []int{2, 0}, 0, api.OK, Equation, api.OK},
		{cycle(), []int{0, 1}, 0, api.OK, Unknown, api.OK},
		{cycle(), []int{1, 0}, 0, api.OK, Unknown, api.OK},
		{weighted(), []int{0, 0}, 0, api.ErrKind, Equation, api.OK},
		{weighted(), []int{2, 2}, 0, api.ErrKind, Unknown, api.OK},
		{idle(), []int{0, 4}, 0, api.OK, Unknown, api.OK},
		{idle(), []int{0, 0}, 3, api.OK, Equation, api.OK},
		{many(), []int{0, 0}, 0, api.OK, 0, api.ErrSize},
	} {
		if set, e := Trap(c.n, c.target); set != c.trap || e != c.e {
			t.Errorf("case %d: Trap %v %v", i, set, e)
		}
		if v, e := Verdict(c.n, c.target); v != c.verdict || e != c.f {
			t.Errorf("case %d: Verdict %v %v", i, v, e)
		}
	}
}

func TestByTrap(t *testing.T) {
	empty, heavy := keeping(), keeping()
	empty.Places[0].Init = 0
	heavy.Trans = append(heavy.Trans, api.Trans{Name: "u", Pre: arcs(0, 2), Post: arcs(0, 2)})
	for i, c := range []struct {
		n       api.Net
		target  []int
		trap    uint64
		e       api.Errno
		verdict int
	}{
		{keeping(), []int{0, 0}, 3, api.OK, ByTrap},
		{keeping(), []int{0, 1}, 0, api.OK, Unknown},
		// A trap that is not marked initially does not count, nor does one in a net that is not ordinary.
		{empty, []int{0, 0}, 0, api.OK, Unknown},
		{heavy, []int{0, 0}, 0, api.ErrKind, Unknown},
	} {
		if ok, e := Rational(c.n, c.target); !ok || e != api.OK {
			t.Errorf("case %d: Rational %v %v", i, ok, e)
		}
		if set, e := Trap(c.n, c.target); set != c.trap || e != c.e {
			t.Errorf("case %d: Trap %v %v", i, set, e)
		}
		if v, e := Verdict(c.n, c.target); v != c.verdict || e != api.OK {
			t.Errorf("case %d: Verdict %v %v", i, v, e)
		}
	}
}

// definedTrap returns the result of Trap by the definition of traps.
func definedTrap(n api.Net, target []int) uint64 {
	union := uint64(0)
	for set := range uint64(1) << len(n.Places) {
		inside := true
		for p, k := range target {
			inside = inside && (k == 0 || set>>p&1 == 0)
		}
		if inside && siphon.Trap(n, set) {
			union |= set
		}
	}
	for p, place := range n.Places {
		if union>>p&1 == 1 && place.Init > 0 {
			return union
		}
	}
	return 0
}

func TestRandomNets(t *testing.T) {
	r := rand.New(rand.NewSource(36))
	verdicts := map[int]int{}
	for seed := range uint64(800) {
		shape := nettest.Shape{Places: 4, Trans: 4, Tokens: 2, Weight: 1 + int(seed%2)}
		n := nettest.Random(seed, shape)
		for range 12 {
			target := make([]int, len(n.Places))
			for p := range target {
				target[p] = max(0, r.Intn(5)-2)
			}
			x, natural, e := Natural(n, target, 3)
			rational, f := Rational(n, target)
			verdict, g := Verdict(n, target)
			if e != api.OK || f != api.OK || g != api.OK || natural && !rational {
				t.Fatal(n, target, x, natural, rational, e, f, g)
			}
			if natural && len(n.Trans) > 0 && !solves(n, target, x) {
				t.Fatal(n, target, x)
			}
			checkFeasible(t, n, target, rational)
			want := Unknown
			trap, h := Trap(n, target)
			if net.Ordinary(n) {
				if h != api.OK || trap != definedTrap(n, target) {
					t.Fatal(n, target, trap, h)
				}
				if trap != 0 {
					want = ByTrap
				}
			} else if h != api.ErrKind || trap != 0 {
				t.Fatal(n, target, trap, h)
			}
			if !rational {
				want = Equation
			}
			if verdict != want {
				t.Fatal(n, target, verdict, want)
			}
			verdicts[verdict]++
		}
		checkReachable(t, n)
	}
	if verdicts[Unknown] < 500 || verdicts[Equation] < 500 || verdicts[ByTrap] < 10 {
		t.Error(verdicts)
	}
}

func solves(n api.Net, target []int, x []int64) bool {
	for p, row := range net.Incidence(n) {
		sum := int64(n.Places[p].Init)
		for u, c := range row {
			sum += c * x[u]
		}
		if sum != int64(target[p]) {
			return false
		}
	}
	return true
}

// checkFeasible compares Rational with the program of Rows.
func checkFeasible(t *testing.T, n api.Net, target []int, want bool) {
	t.Helper()
	if len(n.Trans) == 0 {
		return
	}
	rows, _ := Rows(n, target)
	x, ok, e := simplex.Feasible(rows, len(n.Trans))
	if ok != want || e != api.OK {
		t.Fatal(n, target, x, e)
	}
}

// checkReachable checks the markings that a net can reach.
func checkReachable(t *testing.T, n api.Net) {
	t.Helper()
	type run struct {
		m   []int
		seq []int
	}
	runs := []run{{net.Initial(n), nil}}
	seen := map[string]bool{}
	for i := 0; i < len(runs) && i < 15; i++ {
		counts, _ := firing.Parikh(n, runs[i].seq)
		if len(n.Trans) > 0 && !solves(n, runs[i].m, counts) {
			t.Fatal(n, runs[i])
		}
		if v, e := Verdict(n, runs[i].m); v != Unknown || e != api.OK {
			t.Fatal(n, runs[i], v, e)
		}
		for _, u := range firing.List(n, runs[i].m) {
			if m, _ := firing.Fire(n, runs[i].m, u); !seen[marking.Text(m)] {
				seen[marking.Text(m)] = true
				runs = append(runs, run{m, append(slices.Clone(runs[i].seq), u)})
			}
		}
	}
}
