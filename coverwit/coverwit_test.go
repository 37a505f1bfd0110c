package coverwit

import (
	"math"
	"math/rand"
	"slices"
	"testing"

	"petrinet/api"
	"petrinet/backward"
	"petrinet/firing"
	"petrinet/marking"
	"petrinet/net"
	"petrinet/nettest"
)

const most = api.MaxTokens

var arcs = nettest.Arcs

// made returns a net with the given tokens.
func made(tokens []int, trans ...api.Trans) api.Net {
	n := api.Net{Name: "n"}
	for p, k := range tokens {
		n.Places = append(n.Places, api.Place{Name: "p" + string(rune('a'+p)), Init: k})
	}
	for t, x := range trans {
		x.Name = "t" + string(rune('a'+t))
		n.Trans = append(n.Trans, x)
	}
	return n
}

func TestWitness(t *testing.T) {
	source := made([]int{0}, api.Trans{Post: arcs(0, 1)})
	// Two ways of the same length: the first transition may begin, but the second one has to follow.
	ways := made([]int{1, 0, 0}, api.Trans{Pre: arcs(0, 1), Post: arcs(1, 1)}, api.Trans{Pre: arcs(0, 1), Post: arcs(2, 1)}, api.Trans{Pre: arcs(1, 1), Post: arcs(2, 2)}, api.Trans{Pre: arcs(2, 1), Post: arcs(2, 2)})
	for i, c := range []struct {
		n      api.Net
		target []int
		limit  int
		want   []int
	}{
		{source, []int{0}, 1, nil},
		{source, []int{3}, 4, []int{0, 0, 0}},
		{source, []int{500}, 501, slices.Repeat([]int{0}, 500)},
		{ways, []int{0, 0, 0}, 1, nil},
		{ways, []int{0, 0, 1}, 10, []int{1}},
		{ways, []int{0, 0, 2}, 10, []int{0, 2}},
		{ways, []int{0, 0, 3}, 10, []int{0, 2, 3}},
		{made([]int{1, most}, api.Trans{Pre: arcs(0, 1), Post: arcs(0, 2, 1, 1)}), []int{1, most}, 5, nil},
		// Three markings, although five transitions fire before the last one is found.
		{made([]int{1, 0, 0}, api.Trans{Pre: arcs(0, 1), Post: arcs(0, 1)}, api.Trans{Pre: arcs(0, 1), Post: arcs(1, 1)}, api.Trans{Pre: arcs(0, 1), Post: arcs(1, 1)}, api.Trans{Pre: arcs(1, 1), Post: arcs(0, 1)}, api.Trans{Pre: arcs(1, 1), Post: arcs(2, 1)}), []int{0, 0, 1}, 3, []int{1, 4}},
		// The target is found by the first transition, before the second one exceeds MaxTokens.
		{made([]int{0, most - 2}, api.Trans{Post: arcs(0, 1)}, api.Trans{Post: arcs(1, 99)}), []int{1, 0}, 2, []int{0}},
	} {
		seq, e := Witness(c.n, c.target, c.limit)
		if e != api.OK || !slices.Equal(seq, c.want) {
			t.Errorf("case %d: %v %v", i, seq, e)
		}
		if d, e := Distance(c.n, c.target, c.limit); e != api.OK || d != len(c.want) {
			t.Errorf("case %d: %d %v", i, d, e)
		}
	}
}

func TestWitnessErrors(t *testing.T) {
	source := made([]int{0}, api.Trans{Post: arcs(0, 1)})
	prior := made([]int{0}, api.Trans{Prio: 1})
	idle := made([]int{3})
	// Backward analysis finds more than 1000 minimal markings.
	wide := made([]int{0, 0, 0, 0}, api.Trans{Pre: arcs(1, 1), Post: arcs(0, 1)}, api.Trans{Pre: arcs(2, 1), Post: arcs(1, 1)}, api.Trans{Pre: arcs(3, 1), Post: arcs(2, 1)})
	// A predecessor of the target has too many tokens.
	steep := made([]int{0, 0}, api.Trans{Pre: arcs(0, 1), Post: arcs(1, 1)})
	for i, c := range []struct {
		n      api.Net
		target []int
		limit  int
		e      api.Errno
	}{
		{api.Net{}, nil, 0, api.ErrName},
		{prior, nil, 0, api.ErrKind},
		{idle, nil, 0, api.ErrSize},
		{idle, []int{1, 1}, 0, api.ErrSize},
		{idle, []int{-1}, 0, api.ErrSize},
		{idle, []int{most + 1}, 0, api.ErrSize},
		{idle, []int{api.Omega}, 0, api.ErrSize},
		{idle, []int{4}, 0, api.ErrRange},
		{idle, []int{4}, -1, api.ErrRange},
		{idle, []int{4}, api.MaxStates + 1, api.ErrRange},
		{idle, []int{4}, math.MaxInt, api.ErrRange},
		{idle, []int{4}, 1, api.ErrNone},
		{idle, []int{3}, api.MaxStates, api.OK},
		{wide, []int{30, 0, 0, 0}, 5, api.ErrLimit},
		{steep, []int{most, 1}, 5, api.ErrOver},
		{source, []int{3}, 3, api.ErrLimit},
		{source, []int{3}, 1, api.ErrLimit},
		// The target could be covered, but before it is found, a place would have too many tokens.
		{made([]int{most, 0}, api.Trans{Post: arcs(0, 1)}, api.Trans{Post: arcs(1, 1)}), []int{0, 1}, 5, api.ErrOver},
		{made([]int{0, most - 1}, api.Trans{Post: arcs(0, 1)}, api.Trans{Post: arcs(1, 1)}), []int{2, 0}, 2, api.ErrLimit},
		{made([]int{0, most - 1}, api.Trans{Post: arcs(0, 1)}, api.Trans{Post: arcs(1, 1)}), []int{2, 0}, 3, api.ErrOver},
		{made([]int{0, most - 1}, api.Trans{Post: arcs(0, 1)}, api.Trans{Post: arcs(1, 1)}), []int{2, 0}, 4, api.OK},
		// A state that is too many does not count, but the transition after it does.
		{made([]int{0, 0, most}, api.Trans{Post: arcs(0, 1)}, api.Trans{Post: arcs(2, 1)}), []int{1, 0, 0}, 1, api.ErrOver},
		{made([]int{0, 0, most - 1}, api.Trans{Post: arcs(0, 1)}, api.Trans{Post: arcs(2, 1)}), []int{1, 0, 0}, 1, api.ErrLimit},
	} {
		seq, e := Witness(c.n, c.target, c.limit)
		if e != c.e || e != api.OK && len(seq) != 0 {
			t.Errorf("case %d: %v %v, want %v", i, seq, e, c.e)
		}
		if d, e := Distance(c.n, c.target, c.limit); e != c.e || e != api.OK && d != 0 {
			t.Errorf("case %d: %d %v, want %v", i, d, e, c.e)
		}
	}
}

// sequences calls visit for all firing sequences with at most that many transitions, shorter ones first, then in lexicographic order, until it returns true.
func sequences(n api.Net, longest int, visit func(seq []int, markings [][]int) bool) {
	type run struct {
		seq      []int
		markings [][]int
	}
	level := []run{{nil, [][]int{net.Initial(n)}}}
	for range longest + 1 {
		var next []run
		for _, r := range level {
			if visit(r.seq, r.markings) {
				return
			}
			for _, t := range firing.List(n, r.markings[len(r.seq)]) {
				if m, e := firing.Fire(n, r.markings[len(r.seq)], t); e == api.OK {
					next = append(next, run{append(slices.Clone(r.seq), t), append(slices.Clone(r.markings), m)})
				}
			}
		}
		level = next
	}
}

func TestWitnessOfRandomNets(t *testing.T) {
	found, distant := 0, 0
	for seed := range uint64(800) {
		n := nettest.Random(seed, nettest.Shape{Places: 3, Trans: 3, Tokens: 2, Weight: 2})
		for k := range 4 {
			target := make([]int, len(n.Places))
			for p := range target {
				target[p] = (int(seed) + k*p) % 4
			}
			seq, e := Witness(n, target, 1000)
			possible, f := backward.Coverable(n, [][]int{target}, 1000)
			if f != api.OK || e == api.ErrLimit {
				continue
			}
			if possible != (e == api.OK) || !possible && e != api.ErrNone {
				t.Fatal(n, target, seq, e)
			}
			if !possible {
				continue
			}
			if m, g := firing.Run(n, net.Initial(n), seq); g != (api.Fault{}) || !marking.Leq(target, m) {
				t.Fatal(n, target, seq, m)
			}
			if len(seq) > 5 {
				continue
			}
			sequences(n, 5, func(first []int, markings [][]int) bool {
				if !marking.Leq(target, markings[len(first)]) {
					return false
				}
				if !slices.Equal(seq, first) {
					t.Fatal(n, target, seq, first)
				}
				found++
				if len(seq) > 1 {
					distant++
				}
				return true
			})
		}
	}
	if found < 500 || distant < 100 {
		t.Error(found, distant)
	}
}

func TestPump(t *testing.T) {
	source := made([]int{0}, api.Trans{Post: arcs(0, 1)})
	for i, c := range []struct {
		n            api.Net
		place, limit int
		u, v         []int
	}{
		{source, 0, 1, nil, []int{0}},
		{source, 0, 8, nil, []int{0}},
		// The first transition is needed once; then the second one pumps.
		{made([]int{1, 0, 0}, api.Trans{Pre: arcs(0, 1), Post: arcs(1, 1)}, api.Trans{Pre: arcs(1, 1), Post: arcs(1, 1, 2, 1)}), 2, 2, []int{0}, []int{1}},
		// All that the second sequence takes it gives back.
		{made([]int{2, 0}, api.Trans{Pre: arcs(0, 2), Post: arcs(1, 1)}, api.Trans{Pre: arcs(1, 1), Post: arcs(0, 3)}), 0, 5, nil, []int{0, 1}},
		{made([]int{2, 0}, api.Trans{Pre: arcs(0, 2), Post: arcs(1, 1)}, api.Trans{Pre: arcs(1, 1), Post: arcs(0, 3)}), 1, 5, nil, []int{0, 1, 0, 1, 0}},
		// Pumping with both transitions or with the second one alone gives the same sequence of both; the first part is the longest one.
		{made([]int{0, 0}, api.Trans{Post: arcs(1, 1)}, api.Trans{Pre: arcs(1, 1), Post: arcs(0, 1, 1, 1)}), 0, 5, []int{0}, []int{1}},
		// A sequence that exceeds MaxTokens does not count.
		{made([]int{most - 1, 0}, api.Trans{Post: arcs(0, 2, 1, 1)}, api.Trans{Post: arcs(1, 1)}), 1, 5, nil, []int{1}},
		{made([]int{most, 1}, api.Trans{Pre: arcs(0, 1)}, api.Trans{Pre: arcs(1, 1), Post: arcs(0, 1, 1, 1)}), 0, 5, []int{0}, []int{1}},
	} {
		u, v, e := Pump(c.n, c.place, c.limit)
		if e != api.OK || !slices.Equal(u, c.u) || !slices.Equal(v, c.v) {
			t.Errorf("case %d: %v %v %v", i, u, v, e)
		}
		if u, v, e := Pump(c.n, c.place, len(c.u)+len(c.v)-1); len(u)+len(v) != 0 || e != api.ErrLimit && e != api.ErrRange {
			t.Errorf("case %d: %v %v %v", i, u, v, e)
		}
	}
}

func TestPumpErrors(t *testing.T) {
	source := made([]int{0}, api.Trans{Post: arcs(0, 1)})
	prior := made([]int{0}, api.Trans{Prio: 1})
	for i, c := range []struct {
		n            api.Net
		place, limit int
		e            api.Errno
	}{
		{api.Net{}, -1, 0, api.ErrName},
		{prior, -1, 0, api.ErrKind},
		{source, -1, 0, api.ErrNone},
		{source, 1, 0, api.ErrNone},
		{source, math.MinInt, 0, api.ErrNone},
		{source, 0, 0, api.ErrRange},
		{source, 0, -1, api.ErrRange},
		{source, 0, 9, api.ErrRange},
		{source, 0, math.MaxInt, api.ErrRange},
		{made([]int{5}), 0, 8, api.ErrLimit},
		{made([]int{most}, api.Trans{Post: arcs(0, 1)}), 0, 8, api.ErrLimit},
		{made([]int{1, 0}, api.Trans{Pre: arcs(0, 1), Post: arcs(1, 1)}, api.Trans{Pre: arcs(1, 1), Post: arcs(0, 1)}), 1, 8, api.ErrLimit},
		// The place increases, but another one decreases.
		{made([]int{9, 0}, api.Trans{Pre: arcs(0, 1), Post: arcs(1, 2)}), 1, 8, api.ErrLimit},
	} {
		if u, v, e := Pump(c.n, c.place, c.limit); e != c.e || len(u)+len(v) != 0 {
			t.Errorf("case %d: %v %v %v, want %v", i, u, v, e, c.e)
		}
	}
}

// pumps returns the pair of Pump by the definition, and whether there is one.
func pumps(n api.Net, place, limit int) (u, v []int, ok bool) {
	sequences(n, limit, func(seq []int, markings [][]int) bool {
		last := markings[len(seq)]
		for i := len(seq) - 1; i >= 0; i-- {
			if marking.Leq(markings[i], last) && markings[i][place] < last[place] {
				u, v, ok = seq[:i], seq[i:], true
				return true
			}
		}
		return false
	})
	return u, v, ok
}

// consuming returns a random net in which every transition consumes and produces, so that pumping takes several steps.
func consuming(r *rand.Rand) api.Net {
	random := func() []api.Arc {
		var list []api.Arc
		for _, p := range slices.Sorted(slices.Values(r.Perm(3)[:1+r.Intn(2)])) {
			list = append(list, api.Arc{Place: p, W: 1 + r.Intn(2)})
		}
		return list
	}
	var trans []api.Trans
	for range 2 + r.Intn(2) {
		trans = append(trans, api.Trans{Pre: random(), Post: random()})
	}
	return made([]int{1 + r.Intn(2), r.Intn(2), 0}, trans...)
}

func TestPumpOfRandomNets(t *testing.T) {
	r := rand.New(rand.NewSource(25))
	found, long, none := 0, 0, 0
	for seed := range uint64(9000) {
		n := nettest.Random(seed, nettest.Shape{Places: 4, Trans: 4, Tokens: 1, Weight: 2})
		if seed%2 == 0 {
			n = consuming(r)
		}
		for place := range n.Places {
			for _, limit := range []int{1, 3, 5} {
				u, v, e := Pump(n, place, limit)
				first, second, ok := pumps(n, place, limit)
				if ok != (e == api.OK) || !ok && e != api.ErrLimit || !slices.Equal(u, first) || !slices.Equal(v, second) {
					t.Fatal(n, place, limit, u, v, e, first, second)
				}
				if !ok {
					none++
					continue
				}
				found++
				if len(u) > 0 && len(u)+len(v) > 2 {
					long++
				}
				checkRepeated(t, n, place, u, v)
			}
		}
	}
	if found < 500 || long < 100 || none < 500 {
		t.Error(found, long, none)
	}
}

// checkRepeated checks that repeating v after u increases the place each time.
func checkRepeated(t *testing.T, n api.Net, place int, u, v []int) {
	t.Helper()
	m, f := firing.Run(n, net.Initial(n), u)
	for range 5 {
		var after []int
		if f == (api.Fault{}) {
			after, f = firing.Run(n, m, v)
		}
		if f != (api.Fault{}) || !marking.Leq(m, after) || m[place] >= after[place] {
			t.Fatal(n, place, u, v, m, after, f)
		}
		m = after
	}
}

// A bounded net with thousands of markings: twelve cycles, of which every state is near.
func TestPumpOfManyStates(t *testing.T) {
	var tokens []int
	var trans []api.Trans
	for i := range api.MaxPlaces / 2 {
		tokens = append(tokens, 1, 0)
		trans = append(trans, api.Trans{Pre: arcs(2*i, 1), Post: arcs(2*i+1, 1)}, api.Trans{Pre: arcs(2*i+1, 1), Post: arcs(2*i, 1)})
	}
	if u, v, e := Pump(made(tokens, trans...), 1, 8); e != api.ErrLimit || len(u)+len(v) > 0 {
		t.Error(u, v, e)
	}
}
