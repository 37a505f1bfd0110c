package synth

import (
	"math"
	"math/rand"
	"slices"
	"strconv"
	"testing"

	"petrinet/api"
	"petrinet/explore"
	"petrinet/firing"
	"petrinet/net"
	"petrinet/nettest"
	"petrinet/region"
	"petrinet/system"
)

// made returns a system with the events a, b and so on, and arcs given as From, Trans and To.
func made(states, events int, arcs ...[3]int) api.System {
	s := api.System{States: states}
	for i := range events {
		s.Events = append(s.Events, string(rune('a'+i)))
	}
	for _, a := range arcs {
		s.Arcs = append(s.Arcs, api.Edge{From: a[0], Trans: a[1], To: a[2]})
	}
	return s
}

// cycle is a cycle of two states.
func cycle() api.System {
	return made(2, 2, [3]int{0, 0, 1}, [3]int{1, 1, 0})
}

func isNet(a, b api.Net) bool {
	return net.Check(a).Errno == api.OK && net.Same(a, b)
}

func TestExample(t *testing.T) {
	if ok, e := Elementary(cycle()); e != api.OK || !ok {
		t.Error(ok, e)
	}
	want := api.Net{
		Name:   "synth",
		Places: []api.Place{{Name: "r0", Init: 1, Cap: 1}, {Name: "r1", Cap: 1}},
		Trans: []api.Trans{
			{Name: "a", Pre: nettest.Ones(0), Post: nettest.Ones(1)},
			{Name: "b", Pre: nettest.Ones(1), Post: nettest.Ones(0)},
		},
	}
	n, e := Synthesize(cycle())
	if e != api.OK || !isNet(n, want) {
		t.Error(n, e)
	}
	if ok, e := Matches(cycle(), n); e != api.OK || !ok {
		t.Error(ok, e)
	}
}

func TestIndependent(t *testing.T) {
	// Two events in any order: the diamond, whose minimal regions are its four sides.
	s := made(4, 2, [3]int{0, 0, 1}, [3]int{0, 1, 2}, [3]int{1, 1, 3}, [3]int{2, 0, 3})
	n, e := Synthesize(s)
	want := api.Net{
		Name: "synth",
		// {0, 1}, {0, 2}, {1, 3}, {2, 3}
		Places: []api.Place{{Name: "r0", Init: 1, Cap: 1}, {Name: "r1", Init: 1, Cap: 1}, {Name: "r2", Cap: 1}, {Name: "r3", Cap: 1}},
		Trans: []api.Trans{
			{Name: "a", Pre: nettest.Ones(1), Post: nettest.Ones(2)},
			{Name: "b", Pre: nettest.Ones(0), Post: nettest.Ones(3)},
		},
	}
	if e != api.OK || !isNet(n, want) {
		t.Error(n, e)
	}
}

func TestNotElementary(t *testing.T) {
	for i, c := range []struct {
		s                  api.System
		separated, blocked [][2]int
	}{
		{cycle(), nil, nil},
		// An event three times in a row crosses no border; b leads out.
		{made(4, 2, [3]int{0, 0, 1}, [3]int{1, 0, 2}, [3]int{2, 1, 3}), [][2]int{{0, 1}, {0, 2}, {1, 2}}, [][2]int{{0, 1}, {1, 1}, {2, 0}, {3, 0}}},
		// An event without arcs can never be prevented.
		{made(2, 3, [3]int{0, 0, 1}, [3]int{1, 1, 0}), nil, [][2]int{{0, 2}, {1, 2}}},
		// c leads from 0 to 0: it leaves and enters nothing, so that 1 does not prevent it.
		{made(2, 2, [3]int{0, 0, 1}, [3]int{0, 1, 0}), nil, [][2]int{{1, 1}}},
		// a and b form a cycle; beside it, c goes back and forth between 0 and 1, and 2 and 3, which no region tells apart.
		{made(4, 3, [3]int{0, 0, 2}, [3]int{0, 2, 1}, [3]int{1, 0, 3}, [3]int{1, 2, 0}, [3]int{2, 1, 0}, [3]int{2, 2, 3}, [3]int{3, 1, 1}, [3]int{3, 2, 2}), [][2]int{{0, 1}, {2, 3}}, nil},
	} {
		separated, e := Separated(c.s)
		blocked, f := Blocked(c.s)
		if e != api.OK || f != api.OK || !slices.Equal(separated, c.separated) || !slices.Equal(blocked, c.blocked) {
			t.Error(i, separated, blocked, e, f)
		}
		if ok, e := Elementary(c.s); e != api.OK || ok != (len(c.separated)+len(c.blocked) == 0) {
			t.Error(i, ok, e)
		}
	}
}

func TestErrors(t *testing.T) {
	twice := cycle()
	twice.Events = []string{"x", "r1"}
	other := cycle()
	other.Events = []string{"r2", "synth"}
	large := made(13, 1)
	for i := range 12 {
		large.Arcs = append(large.Arcs, api.Edge{From: i, To: i + 1})
	}
	// No arcs: all sets are regions.
	loose := made(10, 1)
	// A star: every set is a region, as each event has one arc.
	star := made(10, 9)
	for i := range 9 {
		star.Arcs = append(star.Arcs, api.Edge{Trans: i, To: i + 1})
	}
	smaller := made(9, 8)
	smaller.Arcs = star.Arcs[:8]
	wide := diamonds()
	// This one has as many minimal regions as a net may have places.
	full := made(11, 5, [3]int{0, 3, 1}, [3]int{0, 4, 2}, [3]int{1, 0, 3}, [3]int{2, 1, 6}, [3]int{3, 2, 4}, [3]int{4, 4, 5}, [3]int{5, 1, 8}, [3]int{6, 4, 7}, [3]int{7, 2, 9}, [3]int{9, 0, 10})
	if regions, _ := region.Minimal(full); len(regions) != api.MaxPlaces {
		t.Error(len(regions))
	}
	for i, c := range []struct {
		s api.System
		e api.Errno
	}{
		{api.System{}, api.ErrState},
		{made(1, 1, [3]int{0, 0, 1}), api.ErrState},
		{made(2, 2, [3]int{1, 1, 0}, [3]int{0, 0, 1}), api.ErrState},
		{large, api.ErrSize},
		{loose, api.ErrLimit},
		{star, api.ErrLimit},
		{smaller, api.OK},
		// Not deterministic; not reachable.
		{made(3, 1, [3]int{0, 0, 1}, [3]int{0, 0, 2}), api.ErrState},
		{made(2, 1, [3]int{1, 0, 0}), api.ErrState},
		{made(2, 1), api.ErrState},
		{made(1, 0), api.ErrEmpty},
		{made(2, 1, [3]int{0, 0, 1}, [3]int{1, 0, 0}), api.ErrEmpty},
		{made(1, 1, [3]int{0, 0, 0}), api.ErrEmpty},
		{wide, api.ErrSize}, {full, api.OK},
		{twice, api.ErrTwice},
		{other, api.OK},
	} {
		n, e := Synthesize(c.s)
		if e != c.e || (e == api.OK) != (net.Check(n).Errno == api.OK) || e != api.OK && (n.Name != "" || len(n.Places) > 0 || len(n.Trans) > 0) {
			t.Error(i, n, e)
		}
		if l, e := Separated(c.s); e != c.e || e != api.OK && len(l) > 0 {
			t.Error(i, l, e)
		}
		if l, e := Blocked(c.s); e != c.e || e != api.OK && len(l) > 0 {
			t.Error(i, l, e)
		}
		if ok, e := Elementary(c.s); e != c.e || e != api.OK && ok {
			t.Error(i, ok, e)
		}
	}
}

// diamonds returns a system with more minimal regions than places of a net: events that occur several times leave many sets.
func diamonds() api.System {
	r := rand.New(rand.NewSource(4))
	for {
		s := randomSystem(r, 12, 10)
		if regions, e := region.Minimal(s); e == api.OK && len(regions) > api.MaxPlaces {
			return s
		}
	}
}

// randomSystem returns a deterministic system whose states are all reachable.
func randomSystem(r *rand.Rand, states, events int) api.System {
	s := made(states, events)
	next := map[[2]int]int{}
	for to := 1; to < states; to++ {
		for {
			at := [2]int{r.Intn(to), r.Intn(events)}
			if _, known := next[at]; !known {
				next[at] = to
				break
			}
		}
	}
	for range r.Intn(4) {
		at := [2]int{r.Intn(states), r.Intn(events)}
		if _, known := next[at]; !known {
			next[at] = r.Intn(states)
		}
	}
	for state := range states {
		for event := range events {
			if to, known := next[[2]int{state, event}]; known {
				s.Arcs = append(s.Arcs, api.Edge{From: state, Trans: event, To: to})
			}
		}
	}
	return s
}

// behavior returns the system of a random elementary net: ordinary, with capacities 1.
func behavior(seed uint64) (api.System, bool) {
	n := nettest.Random(seed, nettest.Shape{Places: 5, Trans: 4, Tokens: 1, Weight: 1})
	for p := range n.Places {
		n.Places[p].Cap = 1
	}
	s, e := Of(n, 12)
	return s, e == api.OK
}

func TestOf(t *testing.T) {
	n := nettest.Ordinary(2, [2][]int{{0}, {1}}, [2][]int{{1}, {0}})
	n.Places[0].Init = 2
	s, e := Of(n, 3)
	want := []api.Edge{{From: 0, Trans: 0, To: 1}, {From: 1, Trans: 0, To: 2}, {From: 1, Trans: 1, To: 0}, {From: 2, Trans: 1, To: 1}}
	if e != api.OK || s.States != 3 || !slices.Equal(s.Events, []string{"t0", "t1"}) || !slices.Equal(s.Arcs, want) {
		t.Error(s, e)
	}
	tokens := func(count int) api.Net {
		n := n
		n.Places = []api.Place{{Name: "p0", Init: count}, {Name: "p1"}}
		return n
	}
	over := nettest.Ordinary(1, [2][]int{nil, {0}})
	over.Places[0].Init = api.MaxTokens
	for i, c := range []struct {
		n     api.Net
		limit int
		e     api.Errno
	}{
		{api.Net{}, 0, api.ErrName},
		{n, 0, api.ErrRange}, {n, api.MaxStates + 1, api.ErrRange}, {n, math.MinInt, api.ErrRange},
		{over, 5, api.ErrOver},
		{n, 2, api.ErrLimit}, {tokens(300), 250, api.ErrLimit}, {tokens(300), 301, api.ErrSize},
		{tokens(200), 200, api.ErrLimit}, {tokens(200), 201, api.ErrSize}, {tokens(199), 200, api.OK}, {tokens(199), api.MaxStates, api.OK},
	} {
		s, e := Of(c.n, c.limit)
		if e != c.e || (e == api.OK) != (system.Check(s).Errno == api.OK) || e != api.OK && (s.States != 0 || len(s.Events) > 0 || len(s.Arcs) > 0) {
			t.Error(i, s, e)
		}
	}
	for i, c := range []struct {
		n api.Net
		e api.Errno
	}{{api.Net{}, api.ErrName}, {over, api.ErrOver}, {tokens(200), api.ErrLimit}, {tokens(199), api.OK}} {
		if ok, e := Matches(cycle(), c.n); ok || e != c.e {
			t.Error(i, ok, e)
		}
	}
}

func TestMatches(t *testing.T) {
	n, _ := Synthesize(cycle())
	renamed, extended := cycle(), made(3, 2, [3]int{0, 0, 1}, [3]int{1, 1, 0}, [3]int{2, 0, 0})
	renamed.Events = []string{"b", "c"}
	for i, c := range []struct {
		s  api.System
		ok bool
	}{
		{cycle(), true},
		// Events in another order.
		{api.System{States: 2, Events: []string{"b", "a"}, Arcs: []api.Edge{{From: 0, Trans: 1, To: 1}, {From: 1, Trans: 0, To: 0}}}, true},
		{renamed, false},
		{extended, false},
		{made(2, 2, [3]int{0, 1, 1}, [3]int{1, 0, 0}), false},
		{made(2, 2, [3]int{0, 0, 1}), false},
		{made(1, 2, [3]int{0, 0, 0}), false},
		{api.System{}, false},
	} {
		if ok, e := Matches(c.s, n); e != api.OK || ok != c.ok {
			t.Error(i, ok, e)
		}
	}
}

// check compares all functions with the definitions.
func check(t *testing.T, s api.System) (elementary bool) {
	t.Helper()
	regions, _ := region.Minimal(s)
	n, e := Synthesize(s)
	if e != api.OK {
		if len(regions) > 0 && len(regions) <= api.MaxPlaces {
			t.Fatal(s, e)
		}
		return false
	}
	checkNet(t, s, regions, n)
	has := func(set uint64, state int) bool { return set>>state&1 == 1 }
	var separated, blocked [][2]int
	for a := range s.States {
		for b := a + 1; b < s.States; b++ {
			if !slices.ContainsFunc(regions, func(set uint64) bool { return has(set, a) != has(set, b) }) {
				separated = append(separated, [2]int{a, b})
			}
		}
		for event := range s.Events {
			prevents := func(set uint64) bool {
				sign, _ := region.Sign(s, set, event)
				return sign == region.Leaves && !has(set, a) || sign == region.Enters && has(set, a)
			}
			if !slices.ContainsFunc(s.Arcs, func(x api.Edge) bool { return x.From == a && x.Trans == event }) && !slices.ContainsFunc(regions, prevents) {
				blocked = append(blocked, [2]int{a, event})
			}
		}
	}
	if l, e := Separated(s); e != api.OK || !slices.Equal(l, separated) {
		t.Fatal(s, l, e)
	}
	if l, e := Blocked(s); e != api.OK || !slices.Equal(l, blocked) {
		t.Fatal(s, l, e)
	}
	ok, e := Elementary(s)
	if e != api.OK || ok != (len(separated)+len(blocked) == 0) {
		t.Fatal(s, ok, e)
	}
	if same, e := Matches(s, n); ok && (!same || e != api.OK) {
		t.Fatal("elementary, but no match", s, same, e)
	}
	for _, trace := range system.Traces(s, 5) {
		if _, f := firing.Run(n, net.Initial(n), trace); f.Errno != api.OK {
			t.Fatal(s, trace, f)
		}
	}
	return ok
}

func checkNet(t *testing.T, s api.System, regions []uint64, n api.Net) {
	t.Helper()
	if net.Check(n).Errno != api.OK || n.Name != "synth" || len(n.Places) != len(regions) || len(n.Trans) != len(s.Events) {
		t.Fatal(s, n)
	}
	for i, p := range n.Places {
		if p != (api.Place{Name: "r" + strconv.Itoa(i), Init: int(regions[i] & 1), Cap: 1}) {
			t.Fatal(s, i, p)
		}
	}
	for event, u := range n.Trans {
		if u.Name != s.Events[event] || len(u.Inh) > 0 || u.Prio != 0 {
			t.Fatal(s, u)
		}
		for i, set := range regions {
			sign, _ := region.Sign(s, set, event)
			if net.Pre(n, event, i) != max(0, -sign) || net.Post(n, event, i) != max(0, sign) {
				t.Fatal(s, event, i)
			}
		}
	}
}

func TestByDefinition(t *testing.T) {
	r := rand.New(rand.NewSource(47))
	elementary, others := 0, 0
	count := func(s api.System) {
		if check(t, s) {
			elementary++
		} else {
			others++
		}
	}
	for range 300 {
		events := 1 + r.Intn(4)
		count(randomSystem(r, 2+r.Intn(min(6, events+1)), events))
	}
	for seed := range uint64(400) {
		if s, ok := behavior(seed); ok {
			count(s)
		}
	}
	if elementary < 50 || others < 50 {
		t.Error("too few cases", elementary, others)
	}
}

func TestSharesNoMemory(t *testing.T) {
	s := made(4, 2, [3]int{0, 0, 1}, [3]int{0, 1, 2}, [3]int{1, 1, 3}, [3]int{2, 0, 3})
	n, _ := Synthesize(s)
	n.Trans[0].Pre[0].W = 9
	n.Trans[0].Name = "x"
	again, _ := Synthesize(s)
	if s.Events[0] != "a" || again.Trans[0].Pre[0].W != 1 || again.Trans[1].Pre[0].W != 1 {
		t.Error(s, again)
	}
	again.Trans[0].Name = "tt"
	b, _ := Of(again, 10)
	b.Events[0], b.Arcs[0].To = "y", 7
	g, _ := explore.Explore(again, 10)
	if again.Trans[0].Name != "tt" || g.Edges[0].To != 1 {
		t.Error(again, g)
	}
}
