package invariant

import (
	"math"
	"math/rand"
	"slices"
	"strconv"
	"testing"

	"petrinet/api"
	"petrinet/behave"
	"petrinet/explore"
	"petrinet/matrix"
	"petrinet/net"
	"petrinet/nettest"
	"petrinet/semiflow"
)

var arcs = nettest.Arcs

func sameVectors(a, b [][]int64) bool {
	return slices.EqualFunc(a, b, slices.Equal[[]int64])
}

// exchange has a token that moves from p0 to p1 and back.
func exchange() api.Net {
	n := nettest.Ordinary(2, [2][]int{{0}, {1}}, [2][]int{{1}, {0}})
	n.Places[0].Init = 1
	return n
}

// chain has transitions that turn a token of a place into 99 tokens of the next one; the first place has index first.
func chain(first, places int) api.Net {
	n := nettest.Ordinary(places)
	for p := first; p+1 < places; p++ {
		n.Trans = append(n.Trans, api.Trans{Name: "t" + strconv.Itoa(p), Pre: arcs(p, 1), Post: arcs(p+1, 99)})
	}
	return n
}

func TestExample(t *testing.T) {
	n := exchange()
	if l, e := Basis(n); e != api.OK || !sameVectors(l, [][]int64{{1, 1}}) {
		t.Error(l, e)
	}
	n.Places[0].Name, n.Places[1].Name = "p", "q"
	if s, e := Text(n, []int64{1, 1}); e != api.OK || s != "p + q" {
		t.Error(s, e)
	}
	if l, e := Bounds(n); e != api.OK || !slices.Equal(l, []int{1, 1}) {
		t.Error(l, e)
	}
}

func TestBasis(t *testing.T) {
	if l, e := Basis(nettest.Ordinary(3)); e != api.OK || !sameVectors(l, [][]int64{{1, 0, 0}, {0, 1, 0}, {0, 0, 1}}) {
		t.Error(l, e)
	}
	// Inhibitor arcs, priorities and capacities play no part.
	n := exchange()
	n.Places[0].Cap, n.Trans[0].Prio, n.Trans[0].Inh = 5, 1, arcs(1, 3)
	if l, e := Basis(n); e != api.OK || !sameVectors(l, [][]int64{{1, 1}}) {
		t.Error(l, e)
	}
	if l, e := Basis(api.Net{}); e != api.ErrName || len(l) != 0 {
		t.Error(l, e)
	}
	// The error of matrix.Kernel.
	n = chain(0, api.MaxPlaces)
	_, want := matrix.Kernel(matrix.Transpose(net.Incidence(n)))
	if l, e := Basis(n); e != want || e != api.ErrOver || len(l) != 0 {
		t.Error(l, e, want)
	}
	if ok, e := Agrees(n, net.Initial(n)); e != api.ErrOver || ok {
		t.Error(ok, e)
	}
}

func TestHolds(t *testing.T) {
	const most, least = math.MaxInt64, math.MinInt64
	big := nettest.Ordinary(3, [2][]int{{0}, {1}}, [2][]int{{1}, {2}})
	big.Trans[1].Pre[0].W, big.Trans[1].Post[0].W = 2, 2
	for i, c := range []struct {
		n  api.Net
		y  []int64
		ok bool
		e  api.Errno
	}{
		{exchange(), []int64{1, 1}, true, api.OK},
		{exchange(), []int64{-3, -3}, true, api.OK},
		{exchange(), []int64{0, 0}, true, api.OK},
		{exchange(), []int64{1, 2}, false, api.OK},
		{exchange(), []int64{most, most}, true, api.OK},
		// -1 times the least number is too great; 1 times it is not.
		{exchange(), []int64{least, least}, false, api.ErrOver},
		// The partial sum is too great.
		{exchange(), []int64{-most, most}, false, api.ErrOver},
		{exchange(), []int64{1}, false, api.ErrSize}, {exchange(), []int64{1, 1, 0}, false, api.ErrSize}, {exchange(), nil, false, api.ErrSize},
		{api.Net{}, nil, false, api.ErrName},
		{nettest.Ordinary(2), []int64{least, most}, true, api.OK},
		{nettest.Ordinary(2), []int64{1}, false, api.ErrSize},
		// The first column decides nothing about errors of the second one.
		{big, []int64{0, 1, most}, false, api.ErrOver},
		{big, []int64{0, 1, most / 2}, false, api.OK},
		{big, []int64{2, 2, 2}, true, api.OK},
		// The product of the first column is 0, the last one is not.
		{big, []int64{2, 2, 3}, false, api.OK},
	} {
		if ok, e := Holds(c.n, c.y); ok != c.ok || e != c.e {
			t.Error(i, ok, e)
		}
	}
}

func TestValue(t *testing.T) {
	const most, least = math.MaxInt64, math.MinInt64
	for i, c := range []struct {
		y     []int64
		m     []int
		value int64
		e     api.Errno
	}{
		{nil, nil, 0, api.OK},
		{[]int64{2, -3}, []int{5, 4}, -2, api.OK},
		{[]int64{2, -3}, []int{-5, 4}, -22, api.OK},
		{[]int64{1, 2}, []int{1}, 0, api.ErrSize},
		{nil, []int{1}, 0, api.ErrSize},
		{[]int64{most, 1}, []int{1, 0}, most, api.OK},
		{[]int64{most, 1}, []int{1, 1}, 0, api.ErrOver},
		{[]int64{most, 1, -1}, []int{1, 1, 1}, 0, api.ErrOver},
		{[]int64{most, -1, 1}, []int{1, 1, 1}, most, api.OK},
		{[]int64{most}, []int{2}, 0, api.ErrOver},
		{[]int64{least}, []int{1}, least, api.OK},
		{[]int64{least}, []int{-1}, 0, api.ErrOver},
		{[]int64{least, 0}, []int{1, most}, least, api.OK},
	} {
		if v, e := Value(c.y, c.m); v != c.value || e != c.e {
			t.Error(i, v, e)
		}
	}
}

func TestAgrees(t *testing.T) {
	full := chain(0, 8)
	full.Places[0].Init = api.MaxTokens
	// p0 is apart from a chain: its vector is the first one.
	apart := chain(1, 9)
	moved := make([]int, 9)
	moved[0], moved[1] = 1, api.MaxTokens
	started := chain(1, 9)
	started.Places[1].Init = api.MaxTokens
	for i, c := range []struct {
		n  api.Net
		m  []int
		ok bool
		e  api.Errno
	}{
		{exchange(), []int{0, 1}, true, api.OK},
		{exchange(), []int{1, 0}, true, api.OK},
		{exchange(), []int{1, 1}, false, api.OK},
		{exchange(), []int{0, 0}, false, api.OK},
		{exchange(), []int{1}, false, api.ErrSize}, {exchange(), []int{1, 0, 0}, false, api.ErrSize}, {exchange(), []int{2, -1}, false, api.ErrSize},
		{exchange(), []int{api.MaxTokens + 1, 0}, false, api.ErrSize}, {exchange(), []int{api.MaxTokens, 0}, false, api.OK},
		{api.Net{}, nil, false, api.ErrName}, {api.Net{}, []int{1}, false, api.ErrName},
		{nettest.Ordinary(2), []int{0, 0}, true, api.OK},
		{nettest.Ordinary(2), []int{0, 1}, false, api.OK},
		{full, make([]int, 8), false, api.ErrOver},
		{apart, []int{1, 0, 0, 0, 0, 0, 0, 0, 0}, false, api.OK},
		{apart, moved, false, api.ErrOver},
		{started, []int{1, 0, 0, 0, 0, 0, 0, 0, 0}, false, api.ErrOver},
	} {
		if ok, e := Agrees(c.n, c.m); ok != c.ok || e != c.e {
			t.Error(i, ok, e)
		}
	}
}

func TestBounds(t *testing.T) {
	// 2 tokens of p0 become 3 of p1; p2 grows; p3 and p4 exchange.
	n := nettest.Ordinary(5, [2][]int{{0}, {1}}, [2][]int{nil, {2}}, [2][]int{{3}, {4}}, [2][]int{{1, 3}, {1, 3}})
	n.Trans[0].Pre[0].W, n.Trans[0].Post[0].W = 2, 3
	n.Places[0].Init, n.Places[1].Init, n.Places[2].Init, n.Places[4].Init = 4, 1, 7, 3
	if l, e := Bounds(n); e != api.OK || !slices.Equal(l, []int{4, 7, -1, 3, 3}) {
		t.Error(l, e)
	}
	if l, e := Bounds(nettest.Ordinary(2)); e != api.OK || !slices.Equal(l, []int{0, 0}) {
		t.Error(l, e)
	}
	limited, inhibited, full := exchange(), exchange(), chain(0, 8)
	limited.Places[1].Cap = 1
	inhibited.Trans[0].Inh = arcs(1, 1)
	full.Places[0].Init = api.MaxTokens
	for i, c := range []struct {
		n api.Net
		e api.Errno
	}{
		{api.Net{}, api.ErrName}, {limited, api.ErrKind}, {inhibited, api.ErrKind}, {full, api.ErrOver},
	} {
		if l, e := Bounds(c.n); e != c.e || len(l) != 0 {
			t.Error(i, l, e)
		}
	}
	// Priorities do not matter.
	urgent := exchange()
	urgent.Trans[1].Prio = 3
	if l, e := Bounds(urgent); e != api.OK || !slices.Equal(l, []int{1, 1}) {
		t.Error(l, e)
	}
}

func TestCovers(t *testing.T) {
	sink, source, limited, inhibited := exchange(), exchange(), exchange(), exchange()
	sink.Trans = sink.Trans[:1]
	source.Trans[1].Pre = nil
	limited.Places[1].Cap = 1
	inhibited.Trans[0].Inh = arcs(1, 1)
	for i, c := range []struct {
		n                        api.Net
		conservative, consistent bool
		e                        api.Errno
	}{
		{exchange(), true, true, api.OK},
		{sink, true, false, api.OK},
		{source, false, false, api.OK},
		{nettest.Ordinary(1, [2][]int{{0}, nil}, [2][]int{nil, {0}}), false, true, api.OK},
		{nettest.Ordinary(3), true, true, api.OK},
		{api.Net{}, false, false, api.ErrName},
		{limited, false, false, api.ErrKind},
		{inhibited, false, false, api.ErrKind},
	} {
		if ok, e := Conservative(c.n); ok != c.conservative || e != c.e {
			t.Error(i, ok, e)
		}
		if ok, e := Consistent(c.n); ok != c.consistent || e != c.e {
			t.Error(i, ok, e)
		}
	}
	long := chain(0, api.MaxPlaces)
	_, want := semiflow.Places(long)
	if ok, e := Conservative(long); ok || e != want || e != api.ErrOver {
		t.Error(ok, e, want)
	}
	if l, e := Bounds(long); len(l) != 0 || e != want {
		t.Error(l, e)
	}
}

func TestText(t *testing.T) {
	n := nettest.Ordinary(3)
	n.Places[0].Name, n.Places[1].Name, n.Places[2].Name = "p", "q", "r"
	for _, c := range []struct {
		y []int64
		s string
	}{
		{[]int64{1, 2, -1}, "p + 2*q - r"},
		{[]int64{0, 0, 0}, "0"},
		{[]int64{-1, 0, 0}, "-p"},
		{[]int64{-2, 0, 1}, "-2*p + r"},
		{[]int64{0, -1, -10}, "-q - 10*r"},
		{[]int64{0, 0, 7}, "7*r"},
		{[]int64{0, 1, 0}, "q"},
		{[]int64{math.MinInt64, math.MaxInt64, math.MinInt64}, "-9223372036854775808*p + 9223372036854775807*q - 9223372036854775808*r"},
	} {
		if s, e := Text(n, c.y); e != api.OK || s != c.s {
			t.Error(c, s, e)
		}
	}
	for _, y := range [][]int64{nil, {1}, {1, 2}, {1, 2, 3, 4}} {
		if s, e := Text(n, y); e != api.ErrSize || s != "" {
			t.Error(y, s, e)
		}
	}
	for _, y := range [][]int64{nil, {1}} {
		if s, e := Text(api.Net{}, y); e != api.ErrName || s != "" {
			t.Error(y, s, e)
		}
		if ok, e := Holds(api.Net{}, y); e != api.ErrName || ok {
			t.Error(y, ok, e)
		}
	}
}

// TestReachable checks P32.6, and Holds, Agrees and Bounds by the definitions, on random nets.
func TestReachable(t *testing.T) {
	r := rand.New(rand.NewSource(32))
	vectors, bounded, consistent := 0, 0, 0
	for seed := range uint64(3000) {
		n := nettest.Random(seed, nettest.Shape{Places: 5, Trans: 4, Tokens: 3, Weight: 2, Prio: int(seed % 2)})
		basis, e := Basis(n)
		if e != api.OK {
			t.Fatal(n, e)
		}
		if kernel, e := matrix.Kernel(matrix.Transpose(net.Incidence(n))); len(n.Trans) > 0 && (e != api.OK || !sameVectors(basis, kernel)) {
			t.Fatal(n, basis, kernel)
		}
		bounds, e := Bounds(n)
		if e != api.OK || !slices.Equal(bounds, boundsByDefinition(n)) {
			t.Fatal(n, bounds, e)
		}
		checkHolds(t, r, n, basis)
		markings, all := nettest.Reachable(n, 40)
		for _, m := range markings {
			if ok, e := Agrees(n, m); e != api.OK || !ok {
				t.Fatal(n, m, ok, e)
			}
			for _, y := range basis {
				vectors++
				first, _ := Value(y, net.Initial(n))
				if v, e := Value(y, m); e != api.OK || v != first {
					t.Fatal(n, y, m, v, e)
				}
			}
			for p, bound := range bounds {
				if bound >= 0 {
					bounded++
					if m[p] > bound {
						t.Fatal(n, bounds, m)
					}
				}
			}
		}
		if all && len(n.Trans) > 0 && net.Plain(n) && isLive(n) {
			consistent++
			if ok, e := Consistent(n); !ok || e != api.OK {
				t.Fatal(n, ok, e)
			}
		}
	}
	if vectors < 5000 || bounded < 5000 || consistent < 50 {
		t.Error("too few cases", vectors, bounded, consistent)
	}
}

func isLive(n api.Net) bool {
	g, _ := explore.Explore(n, 100)
	return len(behave.Live(n, g)) == len(n.Trans)
}

// boundsByDefinition divides with remainders as they come, as no number is negative.
func boundsByDefinition(n api.Net) []int {
	flows, _ := semiflow.Places(n)
	var bounds []int
	for p := range n.Places {
		bound := -1
		for _, y := range flows {
			sum := 0
			for q, place := range n.Places {
				sum += int(y[q]) * place.Init
			}
			if y[p] > 0 && (bound < 0 || sum/int(y[p]) < bound) {
				bound = sum / int(y[p])
			}
		}
		bounds = append(bounds, bound)
	}
	return bounds
}

// checkHolds compares Holds with the products for sums of vectors of the basis, and for vectors that differ from these.
func checkHolds(t *testing.T, r *rand.Rand, n api.Net, basis [][]int64) {
	t.Helper()
	y := make([]int64, len(n.Places))
	for _, v := range basis {
		factor := r.Int63n(5) - 2
		for p := range y {
			y[p] += factor * v[p]
		}
	}
	if r.Intn(2) == 0 {
		y[r.Intn(len(y))]++
	}
	want := true
	for u := range n.Trans {
		sum := int64(0)
		for p := range y {
			sum += y[p] * int64(net.Post(n, u, p)-net.Pre(n, u, p))
		}
		want = want && sum == 0
	}
	if ok, e := Holds(n, y); e != api.OK || ok != want {
		t.Fatal(n, y, ok, e)
	}
}

func TestSharesNoMemory(t *testing.T) {
	n := exchange()
	l, _ := Basis(n)
	l[0][0] = 9
	b, _ := Bounds(n)
	b[0] = 9
	y := []int64{1, 1}
	Holds(n, y)
	if l, _ = Basis(n); l[0][0] != 1 || n.Places[0].Init != 1 || y[0] != 1 {
		t.Error(l, n)
	}
	units, _ := Basis(nettest.Ordinary(2))
	units[0] = append(units[0], 5)
	units[0][1] = 5
	if !slices.Equal(units[1], []int64{0, 1}) {
		t.Error(units)
	}
}
