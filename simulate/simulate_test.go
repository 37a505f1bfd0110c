package simulate

import (
	"math"
	"math/rand"
	"slices"
	"testing"

	"petrinet/api"
	"petrinet/firing"
	"petrinet/marking"
	"petrinet/net"
	"petrinet/nettest"
	"petrinet/random"
)

var arcs = nettest.Arcs

func same(a, b [][]int) bool {
	return slices.EqualFunc(a, b, slices.Equal[[]int])
}

func equalStats(a, b Stats) bool {
	return slices.Equal(a.Fired, b.Fired) && a.Dead == b.Dead && slices.Equal(a.Max, b.Max)
}

// choice has a token on p0 that moves to p1 by t0, or to p2 by t1, and back by t2 and t3.
func choice() api.Net {
	n := nettest.Ordinary(3, [2][]int{{0}, {1}}, [2][]int{{0}, {2}}, [2][]int{{1}, {0}}, [2][]int{{2}, {0}})
	n.Places[0].Init = 1
	return n
}

// moving moves two tokens from p0 to p1.
func moving() api.Net {
	n := nettest.Ordinary(2, [2][]int{{0}, {1}})
	n.Places[0].Init = 2
	return n
}

// results are those of the definition for one run.
type results struct {
	seq      []int
	markings [][]int
	state    uint64
}

func defined(t *testing.T, n api.Net, weights []int, seed uint64, steps int) results {
	r := results{state: seed, markings: [][]int{net.Initial(n)}}
	for range steps {
		m := r.markings[len(r.seq)]
		list := make([]int, len(weights))
		sum := 0
		for u := range list {
			if firing.May(n, m, u) {
				list[u] = weights[u]
				sum += weights[u]
			}
		}
		if sum == 0 {
			return r
		}
		// The index is computed as layer 52 describes it.
		output, state := random.Next(r.state)
		left, u := int(output%uint64(sum)), 0
		for left >= list[u] {
			left -= list[u]
			u++
		}
		after, e := firing.Fire(n, m, u)
		if e != api.OK {
			t.Fatal(n, m, u, e)
		}
		r.seq, r.markings, r.state = append(r.seq, u), append(r.markings, after), state
	}
	return r
}

func TestRun(t *testing.T) {
	for i, c := range []struct {
		n       api.Net
		weights []int
		steps   int
		seq     []int
		last    []int
	}{
		{nettest.Ordinary(1), nil, 10, nil, []int{0}},
		{nettest.Ordinary(1, [2][]int{{0}, nil}), []int{5}, 10, nil, []int{0}},
		{moving(), []int{1}, 0, nil, []int{2, 0}},
		{moving(), []int{1}, 1, []int{0}, []int{1, 1}},
		{moving(), []int{1000}, 2, []int{0, 0}, []int{0, 2}},
		{moving(), []int{1}, 10000, []int{0, 0}, []int{0, 2}},
		// A transition with the weight 0 does not fire.
		{moving(), []int{0}, 10, nil, []int{2, 0}},
		{choice(), []int{0, 5, 9, 7}, 5, []int{1, 3, 1, 3, 1}, []int{0, 0, 1}},
		{choice(), []int{0, 5, 9, 0}, 5, []int{1}, []int{0, 0, 1}},
	} {
		for _, seed := range []uint64{0, 1, 77, math.MaxUint64} {
			seq, last, e := Run(c.n, c.weights, seed, c.steps)
			if e != api.OK || !slices.Equal(seq, c.seq) || !slices.Equal(last, c.last) {
				t.Errorf("case %d: %v %v %v", i, seq, last, e)
			}
		}
	}
}

// The transition with the greater priority fires alone, whatever the weights are.
func TestPriority(t *testing.T) {
	n := choice()
	n.Trans[1].Prio = 1
	if seq, last, e := Run(n, []int{1000, 1, 1, 1}, 3, 4); e != api.OK || !slices.Equal(seq, []int{1, 3, 1, 3}) || !slices.Equal(last, []int{1, 0, 0}) {
		t.Error(seq, last, e)
	}
	// If it has the weight 0, nothing fires.
	if seq, _, e := Run(n, []int{1000, 0, 1, 1}, 3, 4); e != api.OK || len(seq) != 0 {
		t.Error(seq, e)
	}
}

func TestErrors(t *testing.T) {
	growing := nettest.Ordinary(1, [2][]int{nil, {0}})
	growing.Places[0].Init = api.MaxTokens - 2
	over := growing
	over.Places = []api.Place{{Name: "p0", Init: api.MaxTokens}}
	for i, c := range []struct {
		n           api.Net
		weights     []int
		steps, runs int
		e           api.Errno
	}{
		{api.Net{}, []int{-1}, -1, 0, api.ErrName},
		{moving(), nil, -1, 0, api.ErrSize},
		{moving(), []int{1, -1}, -1, 0, api.ErrSize},
		{over, []int{-1}, 1, 1, api.ErrRange},
		{over, []int{1001}, 1, 1, api.ErrRange},
		{over, []int{math.MaxInt}, 1, 1, api.ErrRange},
		{over, []int{1}, -1, 1, api.ErrRange},
		{over, []int{1}, 10001, 1, api.ErrRange},
		{over, []int{1}, math.MinInt, 1, api.ErrRange},
		{over, []int{1}, 1, 1, api.ErrOver},
		{over, []int{0}, 1, 1, api.OK},
		{over, []int{1}, 0, 1, api.OK},
		{growing, []int{1}, 2, 1, api.OK},
		{growing, []int{1}, 3, 1, api.ErrOver},
		{moving(), []int{1000}, 10000, 100, api.OK},
	} {
		seq, last, e := Run(c.n, c.weights, 1, c.steps)
		if e != c.e || e != api.OK && (len(seq) != 0 || len(last) != 0) {
			t.Errorf("case %d: Run %v %v %v", i, seq, last, e)
		}
		l, e := Trace(c.n, c.weights, 1, c.steps)
		if e != c.e || (e == api.OK) == (len(l) == 0) {
			t.Errorf("case %d: Trace %v %v", i, l, e)
		}
		s, e := Many(c.n, c.weights, 1, c.steps, c.runs)
		if e != c.e || e != api.OK && !equalStats(s, Stats{}) {
			t.Errorf("case %d: Many %v %v", i, s, e)
		}
	}
	for _, runs := range []int{0, -1, 101, math.MaxInt, math.MinInt} {
		if s, e := Many(over, []int{1}, 1, 5, runs); e != api.ErrRange || !equalStats(s, Stats{}) {
			t.Error(runs, s, e)
		}
	}
}

func TestMany(t *testing.T) {
	for i, c := range []struct {
		n           api.Net
		weights     []int
		steps, runs int
		want        Stats
	}{
		{nettest.Ordinary(1), nil, 5, 3, Stats{Dead: 3, Max: []int{0}}},
		{nettest.Ordinary(1), nil, 0, 3, Stats{Max: []int{0}}},
		{moving(), []int{1}, 2, 3, Stats{Fired: []int{6}, Max: []int{2, 2}}},
		{moving(), []int{1}, 3, 100, Stats{Fired: []int{200}, Dead: 100, Max: []int{2, 2}}},
		{moving(), []int{1}, 1, 1, Stats{Fired: []int{1}, Max: []int{2, 1}}},
		{moving(), []int{0}, 1, 2, Stats{Fired: []int{0}, Dead: 2, Max: []int{2, 0}}},
	} {
		if s, e := Many(c.n, c.weights, 5, c.steps, c.runs); e != api.OK || !equalStats(s, c.want) {
			t.Errorf("case %d: %v %v", i, s, e)
		}
	}
}

func TestRandomNets(t *testing.T) {
	r := rand.New(rand.NewSource(53))
	long, dead := 0, 0
	for i := range uint64(400) {
		n := nettest.Random(i, nettest.Shape{Places: 5, Trans: 5, Tokens: 3, Weight: 2, Cap: 4, Inh: int(i % 3), Prio: int(i % 2)})
		weights := make([]int, len(n.Trans))
		for u := range weights {
			weights[u] = max(0, r.Intn(8)-2) * (1 + r.Intn(200))
		}
		seed, steps, runs := r.Uint64(), r.Intn(40), 1+r.Intn(5)
		stats := Stats{Fired: make([]int, len(n.Trans)), Max: net.Initial(n)}
		state := seed
		for k := range runs {
			want := defined(t, n, weights, state, steps)
			checkRun(t, n, weights, state, steps, want)
			for _, u := range want.seq {
				stats.Fired[u]++
			}
			for _, m := range want.markings {
				stats.Max = marking.Max(stats.Max, m)
			}
			if len(want.seq) < steps {
				stats.Dead++
				dead++
			} else if steps > 20 {
				long++
			}
			state = want.state
			if s, e := Many(n, weights, seed, steps, k+1); e != api.OK || !equalStats(s, stats) {
				t.Fatal(n, weights, seed, steps, k+1, s, stats)
			}
		}
	}
	if long < 100 || dead < 100 {
		t.Error(long, dead)
	}
}

// checkRun compares Run and Trace with the definition, and with a shorter run.
func checkRun(t *testing.T, n api.Net, weights []int, seed uint64, steps int, want results) {
	t.Helper()
	seq, last, e := Run(n, weights, seed, steps)
	l, f := Trace(n, weights, seed, steps)
	if e != api.OK || f != api.OK || !slices.Equal(seq, want.seq) || !same(l, want.markings) || !slices.Equal(last, l[len(l)-1]) {
		t.Fatal(n, weights, seed, steps, seq, last, l, want)
	}
	if m, g := firing.Run(n, net.Initial(n), seq); g != (api.Fault{}) || !slices.Equal(m, last) {
		t.Fatal(n, seq, last, m)
	}
	if slices.ContainsFunc(seq, func(u int) bool { return weights[u] == 0 }) {
		t.Fatal(n, weights, seq)
	}
	shorter, _, e := Run(n, weights, seed, steps/2)
	if e != api.OK || !slices.Equal(shorter, seq[:min(steps/2, len(seq))]) {
		t.Fatal(n, weights, seed, steps, seq, shorter)
	}
}

func TestSharesNoMemory(t *testing.T) {
	n, weights := moving(), []int{3}
	l, _ := Trace(n, weights, 7, 0)
	l[0][0] = 9
	_, last, _ := Run(n, weights, 7, 0)
	last[0] = 9
	s, _ := Many(n, weights, 7, 0, 1)
	s.Max[0] = 9
	if n.Places[0].Init != 2 || weights[0] != 3 {
		t.Error("the argument was changed")
	}
	l, _ = Trace(n, weights, 7, 2)
	l[0][0], l[1][0] = 9, 9
	if !same(l, [][]int{{9, 0}, {9, 1}, {0, 2}}) {
		t.Error(l)
	}
}
