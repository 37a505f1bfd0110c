package prefixq

import (
	"math"
	"math/rand"
	"reflect"
	"slices"
	"testing"

	"petrinet/api"
	"petrinet/bitset"
	"petrinet/branching"
	"petrinet/config"
	"petrinet/explore"
	"petrinet/firing"
	"petrinet/net"
	"petrinet/nettest"
	"petrinet/prefix"
	"petrinet/process"
)

type ends = [2][]int

func equalLists(a, b [][]int) bool {
	return slices.EqualFunc(a, b, slices.Equal[[]int])
}

// built returns a net and its prefix.
func built(t *testing.T, n api.Net) (api.Net, api.Branching) {
	t.Helper()
	b, e := prefix.Build(n, api.MaxEvents)
	if e != api.OK {
		t.Fatal(n, e)
	}
	return n, b
}

// ring has a token that goes from place to place, from p0 to p1 and so on, and from the last one back to p0.
func ring(places int) api.Net {
	var list []ends
	for p := range places {
		list = append(list, ends{{p}, {(p + 1) % places}})
	}
	return nettest.Marked(nettest.Ordinary(places, list...), 0)
}

// split puts its token on p1 and p2, each of which can go on, to p3 and p4; or on p5, which is the end.
func split() api.Net {
	return nettest.Marked(nettest.Ordinary(6, ends{{0}, {1, 2}}, ends{{1}, {3}}, ends{{2}, {4}}, ends{{0}, {5}}), 0)
}

// checkMarkings checks Markings and Deadlocks.
func checkMarkings(t *testing.T, n api.Net, b api.Branching, markings, deadlocks [][]int) {
	t.Helper()
	if l, e := Markings(n, b); e != api.OK || !equalLists(l, markings) {
		t.Error("Markings", l, e)
	}
	if l, e := Deadlocks(n, b); e != api.OK || !equalLists(l, deadlocks) {
		t.Error("Deadlocks", l, e)
	}
}

func TestExamples(t *testing.T) {
	n, b := built(t, ring(1))
	checkMarkings(t, n, b, [][]int{{1}}, nil)
	if len(b.Events) != 1 || !b.Events[0].Cut || !Fires(b, 0) || Parallel(n, b, 0, 0) {
		t.Error(b)
	}
	n, b = built(t, ring(3))
	checkMarkings(t, n, b, [][]int{{0, 0, 1}, {0, 1, 0}, {1, 0, 0}}, nil)
	if seq, ok := Reach(n, b, []int{0, 0, 1}); !ok || !slices.Equal(seq, []int{0, 1}) {
		t.Error(seq, ok)
	}
	if seq, ok := Reach(n, b, []int{1, 0, 0}); !ok || len(seq) != 0 {
		t.Error(seq, ok)
	}
}

func TestSplit(t *testing.T) {
	n, b := built(t, split())
	end, both := []int{0, 0, 0, 0, 0, 1}, []int{0, 0, 0, 1, 1, 0}
	checkMarkings(t, n, b, [][]int{end, both, {0, 0, 1, 1, 0, 0}, {0, 1, 0, 0, 1, 0}, {0, 1, 1, 0, 0, 0}, {1, 0, 0, 0, 0, 0}}, [][]int{end, both})
	if seq, ok := Reach(n, b, both); !ok || !slices.Equal(seq, []int{0, 1, 2}) {
		t.Error(seq, ok)
	}
	for _, places := range [][]int{nil, {0}, {5}, {1}, {1, 2}, {1, 4}, {2, 3}, {3, 4}} {
		if !Covers(n, b, bitset.Of(places...)) {
			t.Error(places)
		}
	}
	for _, places := range [][]int{{0, 1}, {1, 3}, {3, 5}, {1, 2, 3}, {0, 5}, {6}, {1, 24}, {63}, {0, 1, 2, 3, 4, 5}} {
		if Covers(n, b, bitset.Of(places...)) {
			t.Error(places)
		}
	}
	for u := range 4 {
		for v := range 4 {
			if Parallel(n, b, u, v) != (min(u, v) == 1 && max(u, v) == 2) {
				t.Error(u, v)
			}
		}
	}
}

func TestSmall(t *testing.T) {
	// No token, no transition, no event; and a token that vanishes.
	n, b := built(t, nettest.Ordinary(2))
	checkMarkings(t, n, b, [][]int{{0, 0}}, [][]int{{0, 0}})
	if !Covers(n, b, 0) || Covers(n, b, 1) || Fires(b, 0) || Parallel(n, b, 0, 0) {
		t.Error(b)
	}
	n, b = built(t, nettest.Marked(nettest.Ordinary(1, ends{{0}, nil}), 0))
	checkMarkings(t, n, b, [][]int{{0}, {1}}, [][]int{{0}})
	// The last place that a net can have.
	n, b = built(t, ring(api.MaxPlaces))
	if !Covers(n, b, bitset.Of(23)) || Covers(n, b, bitset.Of(0, 23)) || Covers(n, b, math.MaxUint64) {
		t.Error("Covers")
	}
}

// TestThree has three places of which any two can be marked together, in two ways, but not all of them: each of their conditions is concurrent with one of each other place.
func TestThree(t *testing.T) {
	// Each of the first three tokens can be moved, to the place three places on, in two ways, which exclude ways of the other two by the tokens that they consume.
	n, b := built(t, nettest.Marked(nettest.Ordinary(12,
		ends{{0, 6, 10}, {3}}, ends{{0, 7, 11}, {3}},
		ends{{1, 7, 8}, {4}}, ends{{1, 6, 9}, {4}},
		ends{{2, 9, 10}, {5}}, ends{{2, 8, 11}, {5}},
	), 0, 1, 2, 6, 7, 8, 9, 10, 11))
	for places, want := range map[uint64]bool{1<<3 | 1<<4: true, 1<<3 | 1<<5: true, 1<<4 | 1<<5: true, 1<<3 | 1<<4 | 1<<2: true, 1<<3 | 1<<4 | 1<<5: false} {
		if Covers(n, b, places) != want {
			t.Error(places)
		}
	}
	checkConfigurations(t, n, b)
}

// TestCut checks that no configuration contains a cut-off event, or one that follows it, while Fires and Parallel count both.
func TestCut(t *testing.T) {
	n, b := built(t, split())
	b.Events[slices.IndexFunc(b.Events, func(e api.Event) bool { return e.Trans == 0 })].Cut = true
	end := []int{0, 0, 0, 0, 0, 1}
	checkMarkings(t, n, b, [][]int{end, {1, 0, 0, 0, 0, 0}}, [][]int{end})
	if seq, ok := Reach(n, b, []int{0, 1, 1, 0, 0, 0}); ok || len(seq) != 0 {
		t.Error(seq, ok)
	}
	if seq, ok := Reach(n, b, end); !ok || !slices.Equal(seq, []int{3}) {
		t.Error(seq, ok)
	}
	if Covers(n, b, bitset.Of(1)) || Covers(n, b, bitset.Of(3)) || !Covers(n, b, bitset.Of(5)) {
		t.Error("Covers")
	}
	if !Fires(b, 0) || !Fires(b, 2) || !Parallel(n, b, 1, 2) || Parallel(n, b, 0, 1) {
		t.Error(b)
	}
	// Both parallel events are cut-off events.
	n, b = built(t, nettest.Marked(nettest.Ordinary(2, ends{{0}, {0}}, ends{{1}, {1}}), 0, 1))
	checkMarkings(t, n, b, [][]int{{1, 1}}, nil)
	if len(prefix.Cutoffs(b)) != 2 || !Parallel(n, b, 0, 1) || !Parallel(n, b, 1, 0) || Parallel(n, b, 0, 0) {
		t.Error(b)
	}
}

// TestFirst checks that Reach takes the first one of several configurations with the marking.
func TestFirst(t *testing.T) {
	// The one with one event comes before the one with two, although its event is the last one; of the others, the first ones.
	n := nettest.Marked(nettest.Ordinary(4, ends{{0}, {1}}, ends{{1}, {2}}, ends{{0}, {2}}, ends{{2}, {3}}), 0)
	b, _ := branching.Initial(n)
	for _, pair := range [][]int{{0, 0}, {1, 1}, {3, 2}, {2, 0}, {3, 4}} {
		b, _ = branching.Add(n, b, pair[0], pair[1:])
	}
	for _, c := range []struct {
		m   []int
		seq []int
	}{
		{[]int{0, 0, 1, 0}, []int{2}},
		{[]int{0, 0, 0, 1}, []int{2, 3}},
		{[]int{0, 1, 0, 0}, []int{0}},
	} {
		if seq, ok := Reach(n, b, c.m); !ok || !slices.Equal(seq, c.seq) {
			t.Error(c.m, seq, ok)
		}
	}
	// Where the event of transition 1 comes first, it is taken.
	n = nettest.Marked(nettest.Ordinary(2, ends{{0}, {1}}, ends{{0}, {1}}), 0)
	b, _ = branching.Initial(n)
	b, _ = branching.Add(n, b, 1, []int{0})
	b, _ = branching.Add(n, b, 0, []int{0})
	if seq, ok := Reach(n, b, []int{0, 1}); !ok || !slices.Equal(seq, []int{1}) {
		t.Error(seq, ok)
	}
	b.Events[0].Cut = true
	if seq, ok := Reach(n, b, []int{0, 1}); !ok || !slices.Equal(seq, []int{0}) {
		t.Error(seq, ok)
	}
}

func TestNoSuchMarking(t *testing.T) {
	n, b := built(t, ring(3))
	for _, m := range [][]int{nil, {1}, {1, 0}, {1, 0, 0, 0}, {0, 0, 0}, {1, 1, 0}, {2, 0, 0}, {-1, 0, 0}, {math.MaxInt, math.MinInt, 0}, make([]int, 24), make([]int, 1000)} {
		if seq, ok := Reach(n, b, m); ok || len(seq) != 0 {
			t.Error(m, seq, ok)
		}
	}
}

func TestErrors(t *testing.T) {
	for i, c := range []struct {
		change func(n *api.Net, b *api.Branching)
		e      api.Errno
	}{
		{func(n *api.Net, b *api.Branching) {}, api.OK},
		{func(n *api.Net, b *api.Branching) { *n = api.Net{} }, api.ErrName},
		{func(n *api.Net, b *api.Branching) { n.Trans[0].Prio = 1 }, api.ErrKind},
		{func(n *api.Net, b *api.Branching) { n.Trans[3].Pre = nil }, api.ErrKind},
		{func(n *api.Net, b *api.Branching) { n.Places[0].Init = 2 }, api.ErrUnsafe},
		{func(n *api.Net, b *api.Branching) { n.Places[0].Init = 0 }, api.ErrNone},
		{func(n *api.Net, b *api.Branching) { *b = api.Branching{} }, api.ErrInit},
		{func(n *api.Net, b *api.Branching) { b.Conds[0].Place = 99 }, api.ErrInit},
		{func(n *api.Net, b *api.Branching) { b.Conds[0].From = 1 }, api.ErrInit},
		{func(n *api.Net, b *api.Branching) { b.Events = append(b.Events, make([]api.Event, api.MaxEvents)...) }, api.ErrSize},
		{func(n *api.Net, b *api.Branching) { b.Events[0].Trans = -1 }, api.ErrRange},
		{func(n *api.Net, b *api.Branching) { b.Events[3].Trans = 4 }, api.ErrRange},
		{func(n *api.Net, b *api.Branching) { b.Events[3].Pre = nil }, api.ErrSize},
		{func(n *api.Net, b *api.Branching) { b.Events[3].Pre = []int{99} }, api.ErrNone},
		{func(n *api.Net, b *api.Branching) { b.Events[3].Pre = []int{0} }, api.ErrType},
		{func(n *api.Net, b *api.Branching) { b.Events[3].Post = nil }, api.ErrNone},
		{func(n *api.Net, b *api.Branching) { b.Events[3] = b.Events[2] }, api.ErrTwice},
		{func(n *api.Net, b *api.Branching) { b.Conds = append(b.Conds, api.Cond{}) }, api.ErrSize},
		{func(n *api.Net, b *api.Branching) {
			// An error counts in an event that no configuration contains as well.
			b.Events[3].Cut, b.Events[3].Trans = true, 4
		}, api.ErrRange},
	} {
		n, b := built(t, split())
		c.change(&n, &b)
		none := c.e != api.OK
		if l, e := Markings(n, b); e != c.e || none && len(l) != 0 {
			t.Error(i, "Markings", l, e)
		}
		if l, e := Deadlocks(n, b); e != c.e || none && len(l) != 0 {
			t.Error(i, "Deadlocks", l, e)
		}
		if seq, ok := Reach(n, b, []int{0, 1, 1, 0, 0, 0}); ok == none || none && len(seq) != 0 {
			t.Error(i, "Reach", seq, ok)
		}
		if Covers(n, b, 0) == none || Covers(n, b, 2) == none || Parallel(n, b, 1, 2) == none {
			t.Error(i, "Covers or Parallel")
		}
	}
}

func TestFires(t *testing.T) {
	// The process need not be one.
	b := api.Branching{Events: []api.Event{{Trans: -7, Cut: true}, {Trans: 2, Pre: []int{99}}, {Trans: math.MaxInt}}}
	for _, trans := range []int{-7, 2, math.MaxInt} {
		if !Fires(b, trans) {
			t.Error(trans)
		}
	}
	for _, trans := range []int{-1, 0, 1, 3, math.MinInt} {
		if Fires(b, trans) || Fires(api.Branching{}, trans) {
			t.Error(trans)
		}
	}
}

func TestNotParallel(t *testing.T) {
	n, b := built(t, split())
	for _, trans := range []int{-1, 4, math.MinInt, math.MaxInt} {
		if Parallel(n, b, trans, 1) || Parallel(n, b, 1, trans) || Parallel(n, b, trans, trans) {
			t.Error(trans)
		}
	}
	// Two events of one transition, one after the other, are not parallel; with two tokens, they can be.
	n = nettest.Marked(nettest.Ordinary(2, ends{{0}, {0}}, ends{{1}, {0}}), 0, 1)
	b, _ = branching.Initial(n)
	b, _ = branching.Add(n, b, 0, []int{0})
	b, _ = branching.Add(n, b, 0, []int{2})
	if Parallel(n, b, 0, 0) {
		t.Error(b)
	}
	b, _ = branching.Add(n, b, 1, []int{1})
	if Parallel(n, b, 0, 0) || !Parallel(n, b, 0, 1) {
		t.Error(b)
	}
	b, _ = branching.Add(n, b, 0, []int{4})
	if !Parallel(n, b, 0, 0) || Parallel(n, b, 1, 1) {
		t.Error(b)
	}
}

// anyProcess returns a process of the net with a few events, some of which are cut-off events.
func anyProcess(r *rand.Rand, n api.Net) api.Branching {
	b, _ := branching.Initial(n)
	for range 3 + r.Intn(8) {
		pairs := branching.Possible(n, b)
		if len(pairs) == 0 || len(b.Conds) > 30 {
			break
		}
		pair := pairs[r.Intn(len(pairs))]
		b, _ = branching.Add(n, b, pair[0], pair[1:])
		b.Events[len(b.Events)-1].Cut = r.Intn(8) == 0
	}
	return b
}

// isUncut reports whether a configuration contains no cut-off event.
func isUncut(b api.Branching, c []int) bool {
	return !slices.ContainsFunc(c, func(e int) bool { return b.Events[e].Cut })
}

// checkConfigurations checks P30.1 to P30.3 by the definitions, and returns how many configurations there are.
func checkConfigurations(t *testing.T, n api.Net, b api.Branching) int {
	t.Helper()
	all, _ := config.All(b, maxConfigurations)
	var markings [][]int
	covered := make([]bool, 1<<len(n.Places))
	count := 0
	for _, c := range all {
		if !isUncut(b, c) {
			continue
		}
		count++
		m, _ := config.Marking(n, b, c)
		if !slices.ContainsFunc(markings, func(earlier []int) bool { return slices.Equal(m, earlier) }) {
			markings = append(markings, m)
			want, _ := config.Linear(b, c)
			if seq, ok := Reach(n, b, m); !ok || !slices.Equal(seq, want) {
				t.Fatal("Reach", n, b, m, seq, ok)
			}
		}
		for places := range covered {
			in := func(p int) bool { return m[p] > 0 }
			covered[places] = covered[places] || !slices.ContainsFunc(bitset.List(uint64(places)), func(p int) bool { return !in(p) })
		}
	}
	for places, is := range covered {
		if Covers(n, b, uint64(places)) != is {
			t.Fatal("Covers", n, b, places, is)
		}
	}
	slices.SortFunc(markings, slices.Compare[[]int])
	deadlocks := slices.DeleteFunc(slices.Clone(markings), func(m []int) bool {
		return slices.ContainsFunc(n.Trans, func(u api.Trans) bool {
			return !slices.ContainsFunc(u.Pre, func(a api.Arc) bool { return m[a.Place] == 0 })
		})
	})
	checkMarkings(t, n, b, markings, deadlocks)
	return count
}

// checkEvents checks Fires and P30.4 by the definitions, and returns how many pairs of transitions are parallel.
func checkEvents(t *testing.T, n api.Net, b api.Branching) int {
	t.Helper()
	fires := make([]bool, len(n.Trans))
	parallel := map[[2]int]bool{}
	for e, first := range b.Events {
		fires[first.Trans] = true
		for f, second := range b.Events {
			if e != f && !branching.Before(b, e, f) && !branching.Before(b, f, e) && !branching.Conflict(b, e, f) {
				parallel[[2]int{first.Trans, second.Trans}] = true
			}
		}
	}
	for u := range n.Trans {
		if Fires(b, u) != fires[u] {
			t.Fatal("Fires", n, b, u)
		}
		for v := range n.Trans {
			if Parallel(n, b, u, v) != parallel[[2]int{u, v}] {
				t.Fatal("Parallel", n, b, u, v)
			}
		}
	}
	return len(parallel)
}

func TestByDefinition(t *testing.T) {
	r := rand.New(rand.NewSource(30))
	many, parallel, unsafe := 0, 0, 0
	for seed := range uint64(500) {
		n := nettest.Admitting(seed)
		if seed%2 == 0 {
			n = nettest.Parts(seed, 3, 2, 9)
		}
		b := anyProcess(r, n)
		if checkConfigurations(t, n, b) > 8 {
			many++
		}
		if checkEvents(t, n, b) > 0 {
			parallel++
		}
		if markings, _ := Markings(n, b); slices.ContainsFunc(markings, func(m []int) bool { return slices.Max(m) > 1 }) {
			unsafe++
		}
	}
	if many < 50 || parallel < 100 || unsafe < 10 {
		t.Error("too few cases", many, parallel, unsafe)
	}
}

// TestPrefixes checks P30.5.
func TestPrefixes(t *testing.T) {
	r := rand.New(rand.NewSource(305))
	cases, large := 0, 0
	for seed := range uint64(1200) {
		n := nettest.Admitting(seed)
		if seed%2 == 0 {
			n = nettest.Parts(r.Uint64(), 2+r.Intn(3), 3, 6+r.Intn(9))
		}
		b, e := prefix.Build(n, 200)
		g, f := explore.Explore(n, 1000)
		if e != api.OK || f != api.OK || !g.Complete {
			continue
		}
		cases++
		if len(g.States) > 8 {
			large++
		}
		slices.SortFunc(g.States, slices.Compare[[]int])
		deadlocks := slices.DeleteFunc(slices.Clone(g.States), func(m []int) bool { return !firing.Dead(n, m) })
		if _, e := Markings(n, b); e != api.ErrLimit {
			checkMarkings(t, n, b, g.States, deadlocks)
			checkSequences(t, n, b, g.States)
		}
	}
	if cases < 500 || large < 50 {
		t.Error("too few cases", cases, large)
	}
}

// checkSequences checks that Reach returns a firing sequence to each of the reachable markings, and none to others.
func checkSequences(t *testing.T, n api.Net, b api.Branching, reachable [][]int) {
	t.Helper()
	for _, m := range reachable {
		seq, ok := Reach(n, b, m)
		after, f := firing.Run(n, net.Initial(n), seq)
		if !ok || f.Errno != api.OK || !slices.Equal(after, m) {
			t.Fatal("Reach", n, b, m, seq, ok)
		}
		other := slices.Clone(m)
		other[0] = 1 - other[0]
		is := slices.ContainsFunc(reachable, func(m []int) bool { return slices.Equal(m, other) })
		if _, ok := Reach(n, b, other); ok != is {
			t.Fatal("Reach", n, b, other, ok)
		}
	}
}

// loops has a place with a token for each of the numbers, whose transition takes and gives back the token that often in the process; then an input place and an output place of one transition more, whose event is the last one.
func loops(numbers ...int) (api.Net, api.Branching) {
	var list []ends
	var marks []int
	for p := range numbers {
		list = append(list, ends{{p}, {p}})
		marks = append(marks, p)
	}
	last := len(numbers)
	n := nettest.Marked(nettest.Ordinary(last+2, append(list, ends{{last}, {last + 1}})...), append(marks, last)...)
	initial, _ := branching.Initial(n)
	p := process.New(n, initial.Conds)
	for place, number := range numbers {
		c := place
		for range number {
			p.Add(place, []int{c})
			c = len(p.Conds) - 1
		}
	}
	p.Add(last, []int{last})
	return n, p.Branching
}

func TestLimit(t *testing.T) {
	// There are 2 * 4 * 625 configurations.
	n, b := loops(3, 624)
	if l, e := Markings(n, b); e != api.OK || !equalLists(l, [][]int{{1, 1, 0, 1}, {1, 1, 1, 0}}) {
		t.Error(l, e)
	}
	if seq, ok := Reach(n, b, []int{1, 1, 0, 1}); !ok || !slices.Equal(seq, []int{2}) {
		t.Error(seq, ok)
	}
	// If the last event is a cut-off event, 3 * 1667, which is one more than the limit.
	n, b = loops(2, 1666)
	b.Events[len(b.Events)-1].Cut = true
	if l, e := Markings(n, b); e != api.ErrLimit || len(l) != 0 {
		t.Error(l, e)
	}
	if l, e := Deadlocks(n, b); e != api.ErrLimit || len(l) != 0 {
		t.Error(l, e)
	}
	if seq, ok := Reach(n, b, []int{1, 1, 1, 0}); ok || len(seq) != 0 {
		t.Error(seq, ok)
	}
	if !Covers(n, b, bitset.Of(0, 1, 2)) || Covers(n, b, bitset.Of(0, 1, 3)) || !Parallel(n, b, 0, 1) || !Parallel(n, b, 1, 2) {
		t.Error("Covers or Parallel")
	}
	// Configurations with cut-off events do not count.
	b.Events[len(b.Events)-2].Cut = true
	checkMarkings(t, n, b, [][]int{{1, 1, 1, 0}}, nil)
	b.Events[2].Cut = true
	b.Events[len(b.Events)-1].Cut = false
	checkMarkings(t, n, b, [][]int{{1, 1, 0, 1}, {1, 1, 1, 0}}, nil)
}

// TestManyConfigurations checks Covers where there are more configurations than could be visited.
func TestManyConfigurations(t *testing.T) {
	n, b := loops(slices.Repeat([]int{90}, 22)...)
	all := uint64(1<<22 - 1)
	for places, want := range map[uint64]bool{0: true, all: true, all | 1<<22: true, all | 1<<23: true, all | 3<<22: false, 3 << 22: false, all | 1<<24: false} {
		if Covers(n, b, places) != want {
			t.Error(places)
		}
	}
	if _, e := Markings(n, b); e != api.ErrLimit {
		t.Error(e)
	}
	if !Parallel(n, b, 21, 22) || Parallel(n, b, 21, 21) {
		t.Error("Parallel")
	}
	// Each event can be done independently, and moves the token to another place.
	var list []ends
	for p := range 12 {
		list = append(list, ends{{p}, {12 + p}})
	}
	n, b = built(t, nettest.Marked(nettest.Ordinary(24, list...), 0, 1, 2, 3, 4, 5, 6, 7, 8, 9, 10, 11))
	if !Covers(n, b, 1<<12-1) || !Covers(n, b, (1<<12-1)<<12) || !Covers(n, b, 0xf0f<<12|0x0f0) || Covers(n, b, 0xf0f<<12|0x1f0) {
		t.Error("Covers")
	}
}

func TestSharesNoMemory(t *testing.T) {
	n, b := built(t, split())
	_, kept := built(t, split())
	m := []int{0, 0, 0, 1, 1, 0}
	for range 2 {
		for _, question := range []func(api.Net, api.Branching) ([][]int, api.Errno){Markings, Deadlocks} {
			l, _ := question(n, b)
			want := slices.Clone(l[1])
			_ = append(l[0], 99)
			l[0][0] = 99
			if !slices.Equal(l[1], want) {
				t.Error(l)
			}
		}
		seq, _ := Reach(n, b, m)
		seq[0] = 99
		Covers(n, b, 3)
		Parallel(n, b, 1, 2)
	}
	checkConfigurations(t, n, b)
	if !reflect.DeepEqual(b, kept) || !net.Same(n, split()) || !slices.Equal(m, []int{0, 0, 0, 1, 1, 0}) {
		t.Error(b, m)
	}
}
