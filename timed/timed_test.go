package timed

import (
	"math"
	"math/rand"
	"slices"
	"strconv"
	"testing"

	"petrinet/api"
	"petrinet/firing"
	"petrinet/marking"
	"petrinet/net"
	"petrinet/nettest"
)

type windows = []api.Window

var arcs = nettest.Arcs

func equal(a, b State) bool {
	return slices.Equal(a.M, b.M) && slices.Equal(a.Clocks, b.Clocks)
}

func isZero(s State) bool {
	return len(s.M) == 0 && len(s.Clocks) == 0
}

func clone(s State) State {
	return State{slices.Clone(s.M), slices.Clone(s.Clocks)}
}

// single has one place with that many tokens, which t0 consumes one by one.
func single(tokens int) api.Net {
	n := nettest.Ordinary(1, [2][]int{{0}, nil})
	n.Places[0].Init = tokens
	return n
}

// race has a token on p0, which t0 moves to p1 and t1 to p2; t2 takes one from p3, where there is one, too.
func race() api.Net {
	n := nettest.Ordinary(4, [2][]int{{0}, {1}}, [2][]int{{0}, {2}}, [2][]int{{3}, nil})
	n.Places[0].Init, n.Places[3].Init = 1, 1
	return n
}

func raceWindows() windows {
	return windows{{Min: 1, Max: 3}, {Min: 2, Max: -1}, {Min: 0, Max: 5}}
}

func TestCheck(t *testing.T) {
	n := single(1)
	for i, c := range []struct {
		n api.Net
		w windows
		e api.Errno
	}{
		{api.Net{}, nil, api.ErrName},
		{n, nil, api.ErrSize},
		{n, windows{{Min: -1}, {}}, api.ErrSize},
		{nettest.Ordinary(1), nil, api.OK},
		{n, windows{{}}, api.OK},
		{n, windows{{Min: 0, Max: -1}}, api.OK},
		{n, windows{{Min: 1000, Max: -1}}, api.OK},
		{n, windows{{Min: 1000, Max: 1000}}, api.OK},
		{n, windows{{Min: 0, Max: 1000}}, api.OK},
		{n, windows{{Min: -1, Max: 5}}, api.ErrRange},
		{n, windows{{Min: -1, Max: -1}}, api.ErrRange},
		{n, windows{{Min: 1001, Max: -1}}, api.ErrRange},
		{n, windows{{Min: 5, Max: 4}}, api.ErrRange},
		{n, windows{{Min: 5, Max: 1001}}, api.ErrRange},
		{n, windows{{Min: 0, Max: -2}}, api.ErrRange},
		{n, windows{{Min: math.MinInt, Max: math.MaxInt}}, api.ErrRange},
	} {
		if e := Check(c.n, c.w); e != c.e {
			t.Errorf("case %d: %v", i, e)
		}
		if c.e == api.OK {
			continue
		}
		// All functions return this error first.
		bad := State{M: []int{-5}}
		if s, e := Start(c.n, c.w); e != c.e || !isZero(s) {
			t.Errorf("case %d: Start %v %v", i, s, e)
		}
		if s, e := Delay(c.n, c.w, bad, -1); e != c.e || !isZero(s) {
			t.Errorf("case %d: Delay %v %v", i, s, e)
		}
		if s, e := Fire(c.n, c.w, bad, -1); e != c.e || !isZero(s) {
			t.Errorf("case %d: Fire %v %v", i, s, e)
		}
		if l, d := Ready(c.n, c.w, State{[]int{1}, []int{0}}), Wait(c.n, c.w, State{[]int{1}, []int{0}}); len(l) != 0 || d != -1 {
			t.Errorf("case %d: Ready %v Wait %v", i, l, d)
		}
		if s, f := Run(c.n, c.w, []api.Step{{Trans: -1}}); f != (api.Fault{Errno: c.e}) || !isZero(s) {
			t.Errorf("case %d: Run %v %v", i, s, f)
		}
		if l, all, e := Explore(c.n, c.w, 0); e != c.e || all || len(l) != 0 {
			t.Errorf("case %d: Explore %v %v %v", i, l, all, e)
		}
		if d, ok, e := Earliest(c.n, c.w, nil, 0); e != c.e || ok || d != 0 {
			t.Errorf("case %d: Earliest %v %v %v", i, d, ok, e)
		}
	}
}

func TestExample(t *testing.T) {
	n, w := single(1), windows{{Min: 2, Max: 3}}
	s, e := Start(n, w)
	if e != api.OK || !equal(s, State{[]int{1}, []int{0}}) || Wait(n, w, s) != 3 || len(Ready(n, w, s)) != 0 {
		t.Error(s, e, Wait(n, w, s), Ready(n, w, s))
	}
	s, e = Delay(n, w, s, 2)
	if e != api.OK || !equal(s, State{[]int{1}, []int{2}}) || Wait(n, w, s) != 1 || !slices.Equal(Ready(n, w, s), []int{0}) {
		t.Error(s, e, Wait(n, w, s), Ready(n, w, s))
	}
	s, e = Fire(n, w, s, 0)
	if e != api.OK || !equal(s, State{[]int{0}, []int{-1}}) || Wait(n, w, s) != api.MaxClock || len(Ready(n, w, s)) != 0 {
		t.Error(s, e, Wait(n, w, s), Ready(n, w, s))
	}
}

func TestDelay(t *testing.T) {
	n, w := race(), raceWindows()
	s, _ := Start(n, w)
	for i, c := range []struct {
		d      int
		clocks []int
		e      api.Errno
	}{
		{0, []int{0, 0, 0}, api.OK},
		{1, []int{1, 1, 1}, api.OK},
		// The clock without an upper bound stays at its Min.
		{3, []int{3, 2, 3}, api.OK},
		{4, nil, api.ErrTime},
		{api.MaxClock, nil, api.ErrTime},
		{-1, nil, api.ErrRange},
		{api.MaxClock + 1, nil, api.ErrRange},
		{math.MinInt, nil, api.ErrRange},
		{math.MaxInt, nil, api.ErrRange},
	} {
		after, e := Delay(n, w, s, c.d)
		if e != c.e || !slices.Equal(after.Clocks, c.clocks) || e == api.OK && !slices.Equal(after.M, s.M) || e != api.OK && !isZero(after) {
			t.Errorf("case %d: %v %v", i, after, e)
		}
	}
	if d := Wait(n, w, s); d != 3 {
		t.Error(d)
	}
	// Without upper bounds, and without transitions that may fire, all time that there is may pass.
	for _, tokens := range []int{0, 1} {
		n, w := single(tokens), windows{{Min: 7, Max: -1}}
		s, _ := Start(n, w)
		after, e := Delay(n, w, s, api.MaxClock)
		if e != api.OK || !equal(after, State{[]int{tokens}, []int{8*tokens - 1}}) || Wait(n, w, s) != api.MaxClock || Wait(n, w, after) != api.MaxClock {
			t.Error(after, e)
		}
	}
}

func TestFire(t *testing.T) {
	n, w := race(), raceWindows()
	s := State{[]int{1, 0, 0, 1}, []int{1, 1, 1}}
	for i, c := range []struct {
		s      State
		t      int
		m      []int
		clocks []int
		e      api.Errno
	}{
		{s, 0, []int{0, 1, 0, 1}, []int{-1, -1, 1}, api.OK},
		{s, 2, []int{1, 0, 0, 0}, []int{1, 1, -1}, api.OK},
		{s, 1, nil, nil, api.ErrTime},
		{s, -1, nil, nil, api.ErrRange},
		{s, 3, nil, nil, api.ErrRange},
		{s, math.MinInt, nil, nil, api.ErrRange},
		{s, math.MaxInt, nil, nil, api.ErrRange},
		// A token remains: the clock of the transition begins anew, those of the others go on.
		{State{[]int{2, 0, 0, 2}, []int{3, 2, 5}}, 0, []int{1, 1, 0, 2}, []int{0, 2, 5}, api.OK},
		{State{[]int{2, 0, 0, 2}, []int{3, 2, 5}}, 2, []int{2, 0, 0, 1}, []int{3, 2, 0}, api.OK},
		{State{[]int{0, 0, 0, 1}, []int{-1, -1, 0}}, 0, nil, nil, api.ErrDead},
		{State{[]int{0, 0, 0, 1}, []int{-1, 0, 0}}, 9, nil, nil, api.ErrState},
	} {
		after, e := Fire(n, w, c.s, c.t)
		if e != c.e || !slices.Equal(after.M, c.m) || !slices.Equal(after.Clocks, c.clocks) {
			t.Errorf("case %d: %v %v", i, after, e)
		}
	}
	// A transition that takes a token and gives it back does not interrupt another one, but one that becomes possible begins at 0.
	loop := nettest.Ordinary(2, [2][]int{{0}, {0, 1}}, [2][]int{{0}, nil}, [2][]int{{1}, nil})
	loop.Places[0].Init = 1
	after, e := Fire(loop, windows{{Min: 0, Max: 9}, {Min: 0, Max: 9}, {Min: 0, Max: 9}}, State{[]int{1, 0}, []int{4, 5, -1}}, 0)
	if e != api.OK || !equal(after, State{[]int{1, 1}, []int{0, 5, 0}}) {
		t.Error(after, e)
	}
	over := nettest.Ordinary(1, [2][]int{nil, {0}})
	if after, e := Fire(over, windows{{}}, State{[]int{api.MaxTokens}, []int{0}}, 0); e != api.ErrOver || !isZero(after) {
		t.Error(after, e)
	}
}

// Priorities stop clocks: only what may fire has one.
func TestPriorities(t *testing.T) {
	n, w := race(), raceWindows()
	n.Trans[2].Prio = 1
	s, e := Start(n, w)
	if e != api.OK || !slices.Equal(s.Clocks, []int{-1, -1, 0}) || Wait(n, w, s) != 5 {
		t.Error(s, e)
	}
	if _, e := Fire(n, w, s, 0); e != api.ErrDead {
		t.Error(e)
	}
	s, e = Fire(n, w, s, 2)
	if e != api.OK || !slices.Equal(s.Clocks, []int{0, 0, -1}) {
		t.Error(s, e)
	}
}

func TestStates(t *testing.T) {
	n, w := race(), raceWindows()
	m := []int{1, 0, 0, 0}
	for i, c := range []struct {
		s  State
		ok bool
	}{
		{State{m, []int{0, 0, -1}}, true},
		{State{m, []int{3, 2, -1}}, true},
		{State{m, []int{4, 2, -1}}, false},
		{State{m, []int{3, 3, -1}}, false},
		{State{m, []int{-1, 2, -1}}, false},
		{State{m, []int{3, -1, -1}}, false},
		{State{m, []int{3, 2, 0}}, false},
		{State{m, []int{3, 2, -2}}, false},
		{State{m, []int{-2, 2, -1}}, false},
		{State{m, []int{3, 2}}, false},
		{State{m, []int{3, 2, -1, -1}}, false},
		{State{m, nil}, false},
		{State{m, []int{math.MinInt, math.MaxInt, -1}}, false},
		{State{m[:3], []int{3, 2, -1}}, false},
		{State{[]int{1, 0, 0, 0, 0}, []int{3, 2, -1}}, false},
		{State{[]int{1, 0, -1, 0}, []int{3, 2, -1}}, false},
		{State{[]int{1, 0, api.MaxTokens + 1, 0}, []int{3, 2, -1}}, false},
		{State{[]int{1, 0, api.MaxTokens, 0}, []int{3, 2, -1}}, true},
		{State{}, false},
	} {
		after, e := Delay(n, w, c.s, -1)
		fired, f := Fire(n, w, c.s, -1)
		l, d := Ready(n, w, c.s), Wait(n, w, c.s)
		want := api.ErrState
		if c.ok {
			want = api.ErrRange
		}
		if e != want || f != want || !isZero(after) || !isZero(fired) || (d >= 0) != c.ok || !c.ok && len(l) != 0 {
			t.Errorf("case %d: %v %v %v %v", i, e, f, l, d)
		}
	}
}

func TestRun(t *testing.T) {
	n, w := race(), raceWindows()
	type steps = []api.Step
	for i, c := range []struct {
		l    steps
		want State
		f    api.Fault
	}{
		{nil, State{[]int{1, 0, 0, 1}, []int{0, 0, 0}}, api.Fault{}},
		{steps{{Trans: 0, Delay: 2}}, State{[]int{0, 1, 0, 1}, []int{-1, -1, 2}}, api.Fault{}},
		{steps{{Trans: 1, Delay: 3}, {Trans: 2, Delay: 2}}, State{[]int{0, 0, 1, 0}, []int{-1, -1, -1}}, api.Fault{}},
		{steps{{Trans: 2, Delay: 0}, {Trans: 0, Delay: 1}}, State{[]int{0, 1, 0, 0}, []int{-1, -1, -1}}, api.Fault{}},
		{steps{{Trans: 1, Delay: 4}}, State{}, api.Fault{Errno: api.ErrTime, At: 0}},
		{steps{{Trans: 9, Delay: 4}}, State{}, api.Fault{Errno: api.ErrTime, At: 0}},
		{steps{{Trans: 9, Delay: -1}}, State{}, api.Fault{Errno: api.ErrRange, At: 0}},
		{steps{{Trans: 9, Delay: 3}}, State{}, api.Fault{Errno: api.ErrRange, At: 0}},
		{steps{{Trans: 0, Delay: 0}}, State{}, api.Fault{Errno: api.ErrTime, At: 0}},
		{steps{{Trans: 1, Delay: 3}, {Trans: 2, Delay: 3}}, State{}, api.Fault{Errno: api.ErrTime, At: 1}},
		{steps{{Trans: 2, Delay: 1}, {Trans: 0, Delay: 0}, {Trans: 1, Delay: 0}}, State{}, api.Fault{Errno: api.ErrDead, At: 2}},
	} {
		s, f := Run(n, w, c.l)
		if f != c.f || !equal(s, c.want) {
			t.Errorf("case %d: %v %v", i, s, f)
		}
	}
	over := nettest.Ordinary(1, [2][]int{nil, {0}})
	over.Places[0].Init = api.MaxTokens - 1
	if s, f := Run(over, windows{{}}, make(steps, 2)); f != (api.Fault{Errno: api.ErrOver, At: 1}) || !isZero(s) {
		t.Error(s, f)
	}
}

func TestExploreErrors(t *testing.T) {
	source := nettest.Ordinary(2, [2][]int{nil, {0}})
	over := nettest.Ordinary(2, [2][]int{nil, {0}})
	over.Places[0].Init = api.MaxTokens - 1
	many := windows{{Min: 0, Max: -1}}
	for i, c := range []struct {
		n     api.Net
		m     []int
		limit int
		e, f  api.Errno
	}{
		{over, nil, 0, api.ErrRange, api.ErrSize},
		{over, []int{0}, 5, api.ErrOver, api.ErrSize},
		{over, []int{0, -1}, 5, api.ErrOver, api.ErrSize},
		{over, []int{0, api.MaxTokens + 1}, 5, api.ErrOver, api.ErrSize},
		{over, []int{0, 0}, 0, api.ErrRange, api.ErrRange},
		{over, []int{0, 0}, -1, api.ErrRange, api.ErrRange},
		{over, []int{0, 0}, api.MaxStates + 1, api.ErrRange, api.ErrRange},
		{over, []int{0, 0}, math.MaxInt, api.ErrRange, api.ErrRange},
		{over, []int{0, 0}, 2, api.ErrOver, api.ErrOver},
		// The state at which too many tokens would be produced is not returned.
		{over, []int{api.MaxTokens - 1, 0}, 1, api.OK, api.ErrLimit},
		{source, []int{0, 0}, 7, api.OK, api.ErrLimit},
		{source, []int{0, 0}, api.MaxStates, api.OK, api.ErrLimit},
	} {
		l, all, e := Explore(c.n, many, c.limit)
		if e != c.e || all || e != api.OK && len(l) != 0 || e == api.OK && len(l) != c.limit {
			t.Errorf("case %d: %v %v %v", i, len(l), all, e)
		}
		d, ok, f := Earliest(c.n, many, c.m, c.limit)
		if f != c.f || ok || d != 0 {
			t.Errorf("case %d: %v %v %v", i, d, ok, f)
		}
	}
}

func TestExplore(t *testing.T) {
	n, w := single(2), windows{{Min: 1, Max: 2}}
	want := []State{{[]int{2}, []int{0}}, {[]int{2}, []int{1}}, {[]int{2}, []int{2}}, {[]int{1}, []int{0}}, {[]int{1}, []int{1}}, {[]int{1}, []int{2}}, {[]int{0}, []int{-1}}}
	for limit := 1; limit <= 8; limit++ {
		l, all, e := Explore(n, w, limit)
		if e != api.OK || all != (limit >= 7) || !slices.EqualFunc(l, want[:min(limit, 7)], equal) {
			t.Error(limit, l, all, e)
		}
	}
	for _, c := range []struct {
		m    int
		time int
		ok   bool
	}{
		{2, 0, true}, {1, 1, true}, {0, 2, true}, {3, 0, false},
	} {
		if d, ok, e := Earliest(n, w, []int{c.m}, 7); e != api.OK || d != c.time || ok != c.ok {
			t.Error(c, d, ok, e)
		}
	}
	if d, ok, e := Earliest(n, w, []int{2}, 6); e != api.ErrLimit || ok || d != 0 {
		t.Error(d, ok, e)
	}
}

// A way with more states may take less time than the one that is found first.
func TestEarliestOfLongWay(t *testing.T) {
	n := nettest.Ordinary(5, [2][]int{{0}, {4}}, [2][]int{{0}, {1}}, [2][]int{{1}, {2}}, [2][]int{{2}, {3}}, [2][]int{{3}, {4}})
	n.Places[0].Init = 1
	w := windows{{Min: 1, Max: 1}, {}, {}, {}, {Min: 0, Max: 0}}
	if d, ok, e := Earliest(n, w, []int{0, 0, 0, 0, 1}, 100); e != api.OK || d != 0 || !ok {
		t.Error(d, ok, e)
	}
	w[1] = api.Window{Min: 1, Max: -1}
	if d, ok, e := Earliest(n, w, []int{0, 0, 0, 0, 1}, 100); e != api.OK || d != 1 || !ok {
		t.Error(d, ok, e)
	}
}

// random returns a small net and windows.
func random(seed uint64, r *rand.Rand) (api.Net, windows) {
	n := nettest.Random(seed, nettest.Shape{Places: 4, Trans: 4, Tokens: 2, Weight: 2, Cap: 3, Inh: int(seed % 3), Prio: int(seed % 2)})
	var w windows
	for range n.Trans {
		x := api.Window{Min: r.Intn(3), Max: -1}
		if r.Intn(3) > 0 {
			x.Max = x.Min + r.Intn(3)
		}
		w = append(w, x)
	}
	return n, w
}

// successor is a state that follows another one, with the time that passes.
type successor struct {
	s    State
	time int
}

// successors returns the successors by the definition, from the functions for single steps.
func successors(t *testing.T, n api.Net, w windows, s State) []successor {
	var list []successor
	if after, e := Delay(n, w, s, 1); e == api.OK {
		list = append(list, successor{after, 1})
	} else if e != api.ErrTime {
		t.Fatal(n, w, s, e)
	}
	for _, u := range Ready(n, w, s) {
		after, e := Fire(n, w, s, u)
		if e != api.OK {
			t.Fatal(n, w, s, u, e)
		}
		list = append(list, successor{after, 0})
	}
	return list
}

func text(s State) string {
	key := ""
	for _, x := range slices.Concat(s.M, s.Clocks) {
		key += strconv.Itoa(x) + " "
	}
	return key
}

func TestRandomNets(t *testing.T) {
	r := rand.New(rand.NewSource(54))
	complete := 0
	for seed := range uint64(500) {
		n, w := random(seed, r)
		const limit = 150
		s, e := Start(n, w)
		if e != api.OK {
			t.Fatal(n, w, e)
		}
		found := []State{s}
		index := map[string]int{text(s): 0}
		all := true
		type edge struct{ from, to, time int }
		var edges []edge
		for i := 0; i < len(found); i++ {
			checkState(t, n, w, found[i], r)
			for _, next := range successors(t, n, w, found[i]) {
				to, known := index[text(next.s)]
				if !known && len(found) == limit {
					all = false
					continue
				}
				if !known {
					to = len(found)
					index[text(next.s)] = to
					found = append(found, next.s)
				}
				edges = append(edges, edge{i, to, next.time})
			}
		}
		l, whole, e := Explore(n, w, limit)
		if e != api.OK || whole != all || !slices.EqualFunc(l, found, equal) {
			t.Fatal(n, w, l, whole, e)
		}
		if !all {
			continue
		}
		complete++
		// The least times are improved until none changes.
		times := slices.Repeat([]int{math.MaxInt32}, len(found))
		times[0] = 0
		for changed := true; changed; {
			changed = false
			for _, e := range edges {
				if times[e.from]+e.time < times[e.to] {
					times[e.to] = times[e.from] + e.time
					changed = true
				}
			}
		}
		for _, s := range found {
			least := math.MaxInt32
			for i, other := range found {
				if slices.Equal(other.M, s.M) {
					least = min(least, times[i])
				}
			}
			if d, ok, e := Earliest(n, w, s.M, limit); e != api.OK || !ok || d != least {
				t.Fatal(n, w, s, d, ok, e, least)
			}
		}
	}
	if complete < 200 {
		t.Error(complete)
	}
}

// checkState checks the results for a state that was reached.
func checkState(t *testing.T, n api.Net, w windows, s State, r *rand.Rand) {
	t.Helper()
	may := firing.List(n, s.M)
	most := api.MaxClock
	var ready []int
	for u, clock := range s.Clocks {
		if (clock >= 0) != slices.Contains(may, u) {
			t.Fatal(n, w, s)
		}
		if clock < 0 {
			continue
		}
		if w[u].Max >= 0 {
			most = min(most, w[u].Max-clock)
		}
		if clock >= w[u].Min {
			ready = append(ready, u)
		}
	}
	if Wait(n, w, s) != most || !slices.Equal(Ready(n, w, s), ready) {
		t.Fatal(n, w, s, Wait(n, w, s), Ready(n, w, s))
	}
	for u := range n.Trans {
		checkFire(t, n, w, s, u, slices.Contains(ready, u))
	}
	// Two delays are one delay by their sum.
	first, second := r.Intn(4), r.Intn(4)
	both, e := Delay(n, w, s, first+second)
	half, f := Delay(n, w, s, first)
	if f == api.OK {
		half, f = Delay(n, w, half, second)
	}
	if e != f || !equal(both, half) || (e == api.OK) != (first+second <= most) {
		t.Fatal(n, w, s, first, second, both, half, e, f)
	}
}

// checkFire compares Fire with its description.
func checkFire(t *testing.T, n api.Net, w windows, s State, u int, ready bool) {
	t.Helper()
	after, e := Fire(n, w, s, u)
	switch {
	case s.Clocks[u] < 0:
		if e != api.ErrDead {
			t.Fatal(n, w, s, u, e)
		}
		return
	case !ready:
		if e != api.ErrTime {
			t.Fatal(n, w, s, u, e)
		}
		return
	}
	m, _ := firing.Fire(n, s.M, u)
	if e != api.OK || !slices.Equal(after.M, m) {
		t.Fatal(n, w, s, u, after, e)
	}
	for v, clock := range after.Clocks {
		want := s.Clocks[v]
		switch {
		case !firing.May(n, m, v):
			want = -1
		case v == u || !firing.May(n, s.M, v):
			want = 0
		}
		if clock != want {
			t.Fatal(n, w, s, u, after, v)
		}
	}
}

// Markings of timed runs are reachable without time; without bounds all markings can be reached at once.
func TestReachable(t *testing.T) {
	r := rand.New(rand.NewSource(55))
	compared := 0
	for seed := range uint64(600) {
		n, w := random(seed, r)
		states, all := nettest.Reachable(n, 60)
		if !all {
			continue
		}
		l, _, e := Explore(n, w, 500)
		if e != api.OK {
			t.Fatal(n, w, e)
		}
		for _, s := range l {
			if !slices.ContainsFunc(states, func(m []int) bool { return slices.Equal(m, s.M) }) {
				t.Fatal(n, w, s)
			}
		}
		free := slices.Repeat(windows{{Min: 0, Max: -1}}, len(n.Trans))
		for _, m := range states {
			if d, ok, e := Earliest(n, free, m, 60); e != api.OK || !ok || d != 0 {
				t.Fatal(n, m, d, ok, e)
			}
			compared++
		}
	}
	if compared < 500 {
		t.Error(compared)
	}
}

// A run of random steps is one of firings.
func TestRuns(t *testing.T) {
	r := rand.New(rand.NewSource(56))
	for seed := range uint64(300) {
		n, w := random(seed, r)
		s, _ := Start(n, w)
		var l []api.Step
		var seq []int
		for range 10 {
			d := r.Intn(min(Wait(n, w, s), 4) + 1)
			after, e := Delay(n, w, s, d)
			if e != api.OK {
				t.Fatal(n, w, s, d, e)
			}
			ready := Ready(n, w, after)
			if len(ready) == 0 {
				continue
			}
			u := ready[r.Intn(len(ready))]
			if s, e = Fire(n, w, after, u); e != api.OK {
				t.Fatal(n, w, after, u, e)
			}
			l, seq = append(l, api.Step{Trans: u, Delay: d}), append(seq, u)
			again, f := Run(n, w, l)
			m, g := firing.Run(n, net.Initial(n), seq)
			if f != (api.Fault{}) || !equal(again, s) || g != (api.Fault{}) || marking.Compare(m, s.M) != 0 {
				t.Fatal(n, w, l, again, s, f, g)
			}
		}
	}
}

func TestSharesNoMemory(t *testing.T) {
	n, w := race(), raceWindows()
	s := State{[]int{1, 0, 0, 1}, []int{1, 1, 1}}
	before := clone(s)
	for _, make := range []func() State{
		func() State { x, _ := Start(n, w); return x },
		func() State { x, _ := Delay(n, w, s, 0); return x },
		func() State { x, _ := Fire(n, w, s, 0); return x },
		func() State { x, _ := Run(n, w, nil); return x },
		func() State { x, _, _ := Explore(n, w, 5); return x[0] },
	} {
		x := make()
		x.M[0], x.Clocks[0] = 9, 9
		if !equal(s, before) || n.Places[0].Init != 1 {
			t.Error("the argument was changed")
		}
	}
	l, _, _ := Explore(n, w, 5)
	l[0].M[0], l[0].Clocks[0] = 9, 9
	if l[1].M[0] != 1 || l[1].Clocks[0] != 1 {
		t.Error("states share memory")
	}
}
