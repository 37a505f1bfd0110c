package semiflow

import (
	"math"
	"math/big"
	"math/rand"
	"slices"
	"testing"

	"petrinet/api"
	"petrinet/matrix"
	"petrinet/net"
	"petrinet/nettest"
	"petrinet/vector"
)

func same(a, b [][]int64) bool {
	return slices.EqualFunc(a, b, slices.Equal[[]int64])
}

// filled returns a matrix with the given size and elements of the same value.
func filled(rows, columns int, x int64) [][]int64 {
	a := make([][]int64, rows)
	for i := range a {
		a[i] = slices.Repeat([]int64{x}, columns)
	}
	return a
}

// random returns a matrix with elements from -size to size.
func random(r *rand.Rand, rows, columns int, size int64) [][]int64 {
	a := filled(rows, columns, 0)
	for i := range a {
		for k := range a[i] {
			a[i][k] = r.Int63n(2*size+1) - size
		}
	}
	return a
}

func TestSolve(t *testing.T) {
	for i, c := range []struct{ a, want [][]int64 }{
		{[][]int64{{1, -1}, {-1, 1}}, [][]int64{{1, 1}}},
		{[][]int64{{0, 0, 0}}, [][]int64{{1, 0, 0}, {0, 1, 0}, {0, 0, 1}}},
		{[][]int64{{1}}, nil},
		{[][]int64{{1, 2, 3}}, nil},
		{[][]int64{{2, -3}}, [][]int64{{3, 2}}},
		{[][]int64{{4, -6}}, [][]int64{{3, 2}}},
		{[][]int64{{1, -1, 0}, {0, 1, -1}}, [][]int64{{1, 1, 1}}},
		{[][]int64{{1, 1, -1, -1}}, [][]int64{{1, 0, 1, 0}, {1, 0, 0, 1}, {0, 1, 1, 0}, {0, 1, 0, 1}}},
		{[][]int64{{1, -2, 0}, {1, -2, 0}}, [][]int64{{2, 1, 0}, {0, 0, 1}}},
		// 1, 1, 1, 1 is a semiflow, but not minimal.
		{[][]int64{{1, -1, 1, -1}, {1, -1, -1, 1}}, [][]int64{{1, 1, 0, 0}, {0, 0, 1, 1}}},
	} {
		if l, e := Solve(c.a); e != api.OK || !same(l, c.want) {
			t.Errorf("case %d: %v %v", i, l, e)
		}
	}
	for _, a := range [][][]int64{nil, {{}}, {{}, {}}, {{1, 2}, {1}}, {nil, {1}}, filled(65, 1, 0), filled(1, 65, 0)} {
		if l, e := Solve(a); e != api.ErrSize || len(l) != 0 {
			t.Error(a, l, e)
		}
	}
	if l, e := Solve(filled(64, 64, 0)); e != api.OK || len(l) != 64 || l[63][63] != 1 {
		t.Error(l, e)
	}
}

// minimal returns the minimal semiflows of a small matrix: those sets of columns that have, up to a factor, one combination to 0, if all of its factors are positive.
func minimal(t *testing.T, a [][]int64) [][]int64 {
	var flows [][]int64
	for set := 1; set < 1<<len(a[0]); set++ {
		var columns []int
		for i := range a[0] {
			if set>>i&1 == 1 {
				columns = append(columns, i)
			}
		}
		part := make([][]int64, len(a))
		for r, row := range a {
			for _, i := range columns {
				part[r] = append(part[r], row[i])
			}
		}
		basis, e := matrix.Kernel(part)
		if e != api.OK {
			t.Fatal(a, e)
		}
		if len(basis) != 1 {
			continue
		}
		x := make([]int64, len(a[0]))
		positive, negative := true, true
		for k, i := range columns {
			x[i] = basis[0][k]
			positive = positive && x[i] > 0
			negative = negative && x[i] < 0
		}
		if negative {
			x, _ = vector.Scale(x, -1)
		}
		if positive || negative {
			flows = append(flows, x)
		}
	}
	slices.SortFunc(flows, func(x, y []int64) int { return vector.Compare(y, x) })
	return flows
}

func TestSmallMatrices(t *testing.T) {
	r := rand.New(rand.NewSource(31))
	several := 0
	for i := range 6000 {
		a := random(r, 1+r.Intn(6), 1+r.Intn(6), 1+int64(i%3))
		l, e := Solve(a)
		if e != api.OK || !same(l, minimal(t, a)) {
			t.Fatal(a, l, e)
		}
		if len(l) > 2 {
			several++
		}
	}
	for range 3000 {
		a := random(r, 1+r.Intn(6), 6, 1)
		for i := range a {
			for k := range a[i] {
				// Such elements have the greatest determinants.
				a[i][k] = 3 - 6*r.Int63n(2)
			}
		}
		if l, e := Solve(a); e != api.OK || !same(l, minimal(t, a)) {
			t.Fatal(a, l, e)
		}
	}
	if several < 500 {
		t.Error(several)
	}
}

// checkSupports checks that the vectors are semiflows, sorted, primitive, and none contains another one.
func checkSupports(t *testing.T, a, flows [][]int64) {
	t.Helper()
	for i, x := range flows {
		if !mapsToZero(a, x) || slices.Min(x) < 0 || slices.Max(x) == 0 {
			t.Fatal("no semiflow", a, x)
		}
		if p, _ := vector.Prim(x); !slices.Equal(p, x) {
			t.Fatal("not primitive", a, x)
		}
		if i > 0 && vector.Compare(flows[i-1], x) <= 0 {
			t.Fatal("not in descending order", a, flows)
		}
		for k, y := range flows {
			if i != k && !slices.ContainsFunc(vector.Support(x), func(j int) bool { return y[j] == 0 }) {
				t.Fatal("a support contains another one", a, x, y)
			}
		}
	}
}

// mapsToZero computes with integers of any size.
func mapsToZero(a [][]int64, x []int64) bool {
	return !slices.ContainsFunc(a, func(row []int64) bool {
		sum := new(big.Int)
		for i := range row {
			sum.Add(sum, new(big.Int).Mul(big.NewInt(row[i]), big.NewInt(x[i])))
		}
		return sum.Sign() != 0
	})
}

func TestLargeMatrices(t *testing.T) {
	r := rand.New(rand.NewSource(32))
	fine := 0
	for _, size := range []int64{1, 2, 50, 1 << 40, math.MaxInt64 / 2} {
		for range 40 {
			a := random(r, 1+r.Intn(9), 1+r.Intn(20), size)
			l, e := Solve(a)
			switch {
			case e == api.OK:
				fine++
				checkSupports(t, a, l)
			case e != api.ErrOver && e != api.ErrLimit || len(l) > 0:
				t.Fatal(a, l, e)
			}
		}
	}
	if fine < 80 {
		t.Error(fine)
	}
	for _, a := range [][][]int64{filled(3, 3, math.MinInt64), {{math.MinInt64, math.MaxInt64}}, {{math.MaxInt64, math.MinInt64 + 1}}, {{1, math.MinInt64}}, {{math.MaxInt64, -2}, {-2, math.MaxInt64}}} {
		l, e := Solve(a)
		if e != api.OK && (e != api.ErrOver || len(l) > 0) {
			t.Error(a, l, e)
		}
		if e == api.OK {
			checkSupports(t, a, l)
		}
	}
	// Half of the columns have 1, the others -1: each pair is a semiflow, and there are 32 times 32 of them.
	a := filled(1, 64, 1)
	for i := range 32 {
		a[0][2*i] = -1
	}
	if l, e := Solve(a); e != api.OK || len(l) != 1024 {
		t.Error(len(l), e)
	}
	// A cycle of 32 steps, each with two choices, has 2^32 minimal semiflows.
	a = filled(32, 64, 0)
	for i := range a {
		a[i][2*i], a[i][2*i+1] = 1, 1
		a[i][(2*i+2)%64], a[i][(2*i+3)%64] = -1, -1
	}
	if l, e := Solve(a); e != api.ErrLimit || len(l) != 0 {
		t.Error(len(l), e)
	}
}

// cycle has two places that are connected by two opposite transitions.
func cycle() api.Net {
	n := nettest.Ordinary(2, [2][]int{{0}, {1}}, [2][]int{{1}, {0}})
	n.Places[0].Init = 1
	return n
}

func TestPlacesTrans(t *testing.T) {
	weighted := api.Net{Name: "n", Places: []api.Place{{Name: "p"}, {Name: "q"}, {Name: "r"}}, Trans: []api.Trans{{Name: "t", Pre: nettest.Arcs(0, 2), Post: nettest.Arcs(1, 3)}, {Name: "u", Pre: nettest.Arcs(1, 1), Post: nettest.Arcs(0, 1)}}}
	for i, c := range []struct {
		n             api.Net
		places, trans [][]int64
	}{
		{cycle(), [][]int64{{1, 1}}, [][]int64{{1, 1}}},
		{nettest.Ordinary(3), [][]int64{{1, 0, 0}, {0, 1, 0}, {0, 0, 1}}, nil},
		{nettest.Ordinary(1, [2][]int{nil, nil}), [][]int64{{1}}, [][]int64{{1}}},
		{nettest.Ordinary(1, [2][]int{nil, {0}}), nil, nil},
		{nettest.Ordinary(2, [2][]int{{0}, {0}}, [2][]int{{0}, {1}}), [][]int64{{1, 1}}, [][]int64{{1, 0}}},
		{weighted, [][]int64{{0, 0, 1}}, nil},
	} {
		if l, e := Places(c.n); e != api.OK || !same(l, c.places) {
			t.Errorf("case %d: Places %v %v", i, l, e)
		}
		if l, e := Trans(c.n); e != api.OK || !same(l, c.trans) {
			t.Errorf("case %d: Trans %v %v", i, l, e)
		}
	}
}

func TestNetErrors(t *testing.T) {
	limited, inhibited, empty, prior := cycle(), cycle(), nettest.Ordinary(1), cycle()
	limited.Places[1].Cap = 5
	inhibited.Trans[1].Inh = nettest.Arcs(0, 1)
	empty.Places[0].Cap = 1
	prior.Trans[0].Prio = 9
	for i, c := range []struct {
		n api.Net
		e api.Errno
	}{
		{api.Net{}, api.ErrName}, {limited, api.ErrKind}, {inhibited, api.ErrKind}, {empty, api.ErrKind}, {prior, api.OK},
	} {
		if l, e := Places(c.n); e != c.e || (e == api.OK) != (len(l) > 0) {
			t.Errorf("case %d: %v %v", i, l, e)
		}
		if l, e := Trans(c.n); e != c.e || (e == api.OK) != (len(l) > 0) {
			t.Errorf("case %d: %v %v", i, l, e)
		}
	}
}

func TestCovered(t *testing.T) {
	flows := [][]int64{{0, 2, 0}, {-1, 0}, {0, 0, 0, math.MinInt64}}
	for _, c := range []struct {
		k    int
		want bool
	}{
		{math.MinInt, true}, {-1, true}, {0, true}, {1, true}, {2, true}, {3, false}, {4, false}, {math.MaxInt, false},
	} {
		if is := Covered(flows, c.k); is != c.want {
			t.Error(c.k, is)
		}
	}
	if !Covered(nil, 0) || Covered(nil, 1) || !Covered([][]int64{{1, 1, 1, 1}}, 4) || Covered([][]int64{{1, 1, 1, 1}}, 5) {
		t.Error("Covered")
	}
}

func TestSum(t *testing.T) {
	const most = math.MaxInt64
	for i, c := range []struct {
		flows [][]int64
		want  []int64
		e     api.Errno
	}{
		{nil, nil, api.ErrSize},
		{[][]int64{{1, 2}, {1}}, nil, api.ErrSize},
		{[][]int64{{most}, {1}, {}}, nil, api.ErrSize},
		{[][]int64{{}}, nil, api.OK},
		{[][]int64{{1, -2}}, []int64{1, -2}, api.OK},
		{[][]int64{{1, 2}, {3, -4}, {5, 6}}, []int64{9, 4}, api.OK},
		{[][]int64{{most}, {1}, {-1}}, nil, api.ErrOver},
		{[][]int64{{most}, {-1}, {1}}, []int64{most}, api.OK},
		{[][]int64{{0, math.MinInt64}, {0, -1}}, nil, api.ErrOver},
	} {
		if l, e := Sum(c.flows); e != c.e || !slices.Equal(l, c.want) {
			t.Errorf("case %d: %v %v", i, l, e)
		}
	}
	flows := [][]int64{{1, 2}}
	l, _ := Sum(flows)
	l[0] = 9
	if flows[0][0] != 1 {
		t.Error("the result shares memory with the argument")
	}
}

func TestRandomNets(t *testing.T) {
	r := rand.New(rand.NewSource(33))
	for seed := range uint64(400) {
		n := nettest.Random(seed, nettest.Shape{Places: 5, Trans: 5, Tokens: 2, Weight: 2, Prio: 2})
		places, e := Places(n)
		trans, f := Trans(n)
		if e != api.OK || f != api.OK {
			t.Fatal(n, e, f)
		}
		if len(n.Trans) > 0 {
			incidence := net.Incidence(n)
			checkSupports(t, incidence, trans)
			checkSupports(t, matrix.Transpose(incidence), places)
			if !same(trans, minimal(t, incidence)) || !same(places, minimal(t, matrix.Transpose(incidence))) {
				t.Fatal(n, places, trans)
			}
			checkSums(t, incidence, trans, r)
		}
		checkConstant(t, n, places)
	}
}

// checkSums checks that each semiflow, made of the minimal ones, has the supports of those that it contains.
func checkSums(t *testing.T, a, flows [][]int64, r *rand.Rand) {
	t.Helper()
	if len(flows) == 0 {
		return
	}
	x := make([]int64, len(a[0]))
	for _, y := range flows {
		x, _ = vector.Combine(x, 1, y, r.Int63n(3))
	}
	covered := make([]bool, len(x))
	for _, y := range flows {
		if slices.ContainsFunc(vector.Support(y), func(i int) bool { return x[i] == 0 }) {
			continue
		}
		for _, i := range vector.Support(y) {
			covered[i] = true
		}
	}
	for i := range x {
		if covered[i] != (x[i] != 0) {
			t.Fatal(a, flows, x)
		}
	}
}

// checkConstant checks that the weighted number of tokens is the same at all reachable markings.
func checkConstant(t *testing.T, n api.Net, flows [][]int64) {
	t.Helper()
	states, _ := nettest.Reachable(n, 50)
	for _, x := range flows {
		weighted := func(m []int) int64 {
			sum := int64(0)
			for p, k := range m {
				sum += x[p] * int64(k)
			}
			return sum
		}
		for _, m := range states {
			if weighted(m) != weighted(states[0]) {
				t.Fatal(n, x, m)
			}
		}
	}
}

func TestGreatestNet(t *testing.T) {
	n := api.Net{Name: "n"}
	for i := range api.MaxPlaces {
		n.Places = append(n.Places, api.Place{Name: "p" + string(rune('a'+i))})
	}
	for i := range api.MaxTrans {
		n.Trans = append(n.Trans, api.Trans{Name: "t" + string(rune('a'+i)), Pre: nettest.Arcs(i, 1), Post: nettest.Arcs((i+1)%api.MaxPlaces, 1)})
	}
	ones := [][]int64{slices.Repeat([]int64{1}, 24)}
	if l, e := Places(n); e != api.OK || !same(l, ones) {
		t.Error(l, e)
	}
	if l, e := Trans(n); e != api.OK || !same(l, ones) {
		t.Error(l, e)
	}
}
