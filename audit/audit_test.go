package audit

import (
	"math"
	"math/rand"
	"reflect"
	"slices"
	"strconv"
	"testing"

	"petrinet/api"
	"petrinet/colored"
	"petrinet/explore"
	"petrinet/net"
	"petrinet/nettest"
	"petrinet/soundness"
	"petrinet/synth"
	"petrinet/system"
)

type ends = [2][]int

// cycle moves its token from place 0 to place 1 and back.
func cycle() api.Net {
	return nettest.Marked(nettest.Ordinary(2, ends{{0}, {1}}, ends{{1}, {0}}), 0)
}

// sequence moves a token from the source to the sink.
func sequence() api.Net {
	return nettest.Marked(nettest.Ordinary(2, ends{{0}, {1}}), 0)
}

// producer fills its place without end.
func producer() api.Net {
	return nettest.Ordinary(1, ends{nil, {0}})
}

// full has a transition that would put too many tokens on its place.
func full() api.Net {
	n := producer()
	n.Places[0].Init = api.MaxTokens
	return n
}

// consumer has so many tokens on its place, which are taken one by one.
func consumer(tokens int) api.Net {
	n := nettest.Ordinary(1, ends{{0}, nil})
	n.Places[0].Init = tokens
	return n
}

func TestWords(t *testing.T) {
	want := []string{
		"cover", "tree", "bounds", "stubborn", "symmetry", "prefix", "deadlock", "semiflow", "trap", "equation",
		"reduction", "rank", "complement", "colored", "sound", "synth", "align", "replay",
	}
	words := Words()
	if !slices.Equal(words, want) {
		t.Error(words)
	}
	clear(words)
	if words = Words(); !slices.Equal(words, want) {
		t.Error("a result shares memory with another one", words)
	}
}

// none checks that there is this error, and no finding.
func none(t *testing.T, name any, found []Finding, e, want api.Errno) {
	t.Helper()
	if len(found) > 0 || e != want {
		t.Error(name, found, e, want)
	}
}

func TestErrorsOfNet(t *testing.T) {
	faulty, blocked := cycle(), full()
	faulty.Trans[1].Name = "t0"
	blocked.Trans[0].Pre = nettest.Ones(0)
	blocked.Trans[0].Post = nettest.Arcs(0, 1)
	for i, c := range []struct {
		n     api.Net
		limit int
		e     api.Errno
	}{
		{api.Net{}, 0, api.ErrName},
		{faulty, 0, api.ErrTwice},
		{nettest.Ordinary(25), -1, api.ErrSize},
		{cycle(), 0, api.ErrRange},
		{cycle(), -1, api.ErrRange},
		{cycle(), 2001, api.ErrRange},
		{cycle(), math.MinInt, api.ErrRange},
		{cycle(), math.MaxInt, api.ErrRange},
		{full(), 2001, api.ErrRange},
		{full(), 1, api.ErrOver},
		{full(), 2000, api.ErrOver},
		{producer(), 2000, api.ErrLimit},
		{cycle(), 1, api.ErrLimit},
		{consumer(2000), 2000, api.ErrLimit},
		{cycle(), 2, api.OK},
		{cycle(), 2000, api.OK},
		{consumer(1999), 2000, api.OK},
		{blocked, 1, api.OK},
		// The example of the chapter.
		{nettest.Ordinary(1), 1, api.OK},
		{nettest.Ordinary(24), 1, api.OK},
	} {
		found, e := Net(c.n, c.limit)
		none(t, i, found, e, c.e)
	}
}

func TestErrorsOfColored(t *testing.T) {
	sets := []api.ColorSet{{Name: "c", Values: []string{"a", "b"}}}
	arc := func(kind int) []api.ColorArc {
		return []api.ColorArc{{Terms: []api.Term{{W: 1, Kind: kind}}}}
	}
	made := func(tokens int, pre, post []api.ColorArc) api.ColorNet {
		return api.ColorNet{
			Name: "n", Sets: sets, Places: []api.ColorPlace{{Name: "p", Init: []int{tokens, 0}}},
			Trans: []api.ColorTrans{{Name: "t", Vars: []api.Var{{Name: "x"}}, Pre: pre, Post: post}},
		}
	}
	faulty, large := made(1, nil, nil), made(1, arc(api.Value), arc(api.Succ))
	faulty.Places[0].Set = 1
	// Its unfolding would have too many places.
	for i := range 12 {
		large.Places = append(large.Places, api.ColorPlace{Name: "q" + strconv.Itoa(i), Init: []int{0, 0}})
	}
	for i, c := range []struct {
		c     api.ColorNet
		limit int
		e     api.Errno
	}{
		{api.ColorNet{}, 0, api.ErrName},
		{faulty, 0, api.ErrRange},
		{made(0, nil, arc(api.Succ)), 0, api.ErrRange},
		{made(0, nil, arc(api.Succ)), 2001, api.ErrRange},
		{made(0, nil, arc(api.Succ)), math.MinInt, api.ErrRange},
		{made(api.MaxTokens, nil, arc(api.Value)), 2001, api.ErrRange},
		{made(api.MaxTokens, nil, arc(api.Value)), 1, api.ErrOver},
		{made(0, nil, arc(api.Succ)), 2000, api.ErrLimit},
		{made(1, arc(api.Value), arc(api.Succ)), 1, api.ErrLimit},
		{made(1, arc(api.Value), arc(api.Succ)), 2, api.OK},
		{made(1, arc(api.Value), arc(api.Succ)), 2000, api.OK},
		{made(9, arc(api.All), nil), 1, api.OK},
		{large, 2000, api.OK},
	} {
		found, e := Colored(c.c, c.limit)
		none(t, i, found, e, c.e)
	}
}

func TestErrorsOfWorkflow(t *testing.T) {
	prior, faulty, named := sequence(), sequence(), sequence()
	prior.Trans[0].Prio = 1
	faulty.Trans[0].Name = "p0"
	named.Trans[0].Name = "_close"
	for i, c := range []struct {
		n     api.Net
		limit int
		e     api.Errno
	}{
		{api.Net{}, 0, api.ErrName},
		{faulty, 0, api.ErrTwice},
		{prior, 0, api.ErrKind},
		{nettest.Ordinary(2), 0, api.ErrState},
		{cycle(), 2001, api.ErrState},
		{sequence(), 0, api.ErrRange},
		{sequence(), -1, api.ErrRange},
		{sequence(), 2001, api.ErrRange},
		{sequence(), math.MaxInt, api.ErrRange},
		{sequence(), 1, api.ErrLimit},
		// The closed net has one node more, so that the check is left out.
		{sequence(), 2, api.OK},
		{sequence(), 3, api.OK},
		{sequence(), 2000, api.OK},
		{named, 2000, api.OK},
		// Neither sound, nor is the closed net live.
		{nettest.Ordinary(4, ends{{0}, {1}}, ends{{0}, {2}}, ends{{1, 2}, {3}}), 100, api.OK},
		// Not bounded.
		{nettest.Ordinary(3, ends{{0}, {1}}, ends{{1}, {1, 2}}, ends{{1}, {2}}), 100, api.OK},
	} {
		found, e := Workflow(c.n, c.limit)
		none(t, i, found, e, c.e)
	}
}

// ring is a transition system that does its events in turn.
func ring(states int) api.System {
	s := api.System{States: states}
	for i := range states {
		s.Events = append(s.Events, "e"+strconv.Itoa(i))
		s.Arcs = append(s.Arcs, api.Edge{From: i, Trans: i, To: (i + 1) % states})
	}
	return s
}

func TestErrorsOfSystem(t *testing.T) {
	named, unreachable, choice := ring(2), ring(3), ring(2)
	named.Events[0] = "r0"
	unreachable.Arcs = unreachable.Arcs[1:]
	choice.Arcs[1] = api.Edge{From: 0, Trans: 0, To: 0}
	slices.Reverse(choice.Arcs)
	for i, c := range []struct {
		s api.System
		e api.Errno
	}{
		{api.System{}, api.ErrSize},
		{api.System{States: 201}, api.ErrSize},
		{api.System{States: 1, Events: []string{""}}, api.ErrName},
		{api.System{States: 1, Events: []string{"a", "a"}}, api.ErrTwice},
		{api.System{States: 1, Arcs: []api.Edge{{}}}, api.ErrRange},
		{api.System{States: 1, Events: []string{"a"}, Arcs: []api.Edge{{}, {}}}, api.ErrOrder},
		// The check is left out where there is no net.
		{api.System{States: 1}, api.OK},
		{api.System{States: 200}, api.OK},
		{ring(13), api.OK},
		{named, api.OK},
		{unreachable, api.OK},
		{choice, api.OK},
		// Not elementary: the event can be repeated once.
		{api.System{States: 3, Events: []string{"a"}, Arcs: []api.Edge{{From: 0, To: 1}, {From: 1, To: 2}}}, api.OK},
		{ring(2), api.OK},
		{ring(12), api.OK},
	} {
		found, e := System(c.s)
		none(t, i, found, e, c.e)
	}
}

func TestErrorsOfLog(t *testing.T) {
	n, prior, faulty := sequence(), sequence(), sequence()
	prior.Trans[0].Prio = 1
	faulty.Trans[0].Name = "p0"
	bad := [][]string{{"T"}}
	long := slices.Repeat([]string{"t0"}, 65)
	final := []int{0, 1}
	for i, c := range []struct {
		n     api.Net
		final []int
		log   [][]string
		limit int
		e     api.Errno
	}{
		{api.Net{}, nil, bad, 0, api.ErrName},
		{faulty, nil, bad, 0, api.ErrTwice},
		{n, nil, bad, 0, api.ErrName},
		{n, nil, [][]string{long}, 0, api.ErrSize},
		{n, final, make([][]string, 65), 0, api.ErrSize},
		{n, nil, nil, 0, api.ErrSize},
		{n, []int{0}, nil, 0, api.ErrSize},
		{n, []int{0, 1, 0}, nil, 0, api.ErrSize},
		{n, []int{0, -1}, nil, 0, api.ErrSize},
		{n, []int{0, api.MaxTokens + 1}, nil, 0, api.ErrSize},
		{n, final, nil, 0, api.ErrRange},
		{n, final, nil, -1, api.ErrRange},
		{n, final, nil, 2001, api.ErrRange},
		{n, final, nil, math.MinInt, api.ErrRange},
		{full(), []int{0}, nil, 2001, api.ErrRange},
		{full(), []int{0}, nil, 1, api.ErrOver},
		{producer(), []int{0}, nil, 2000, api.ErrLimit},
		{n, final, nil, 1, api.ErrLimit},
		{n, final, nil, 2, api.OK},
		{n, final, [][]string{nil, {"t0"}, {"t0", "t0"}, {"x"}, long[1:]}, 2, api.OK},
		{n, final, make([][]string, 64), 2000, api.OK},
		// No alignment: the final marking cannot be reached.
		{n, []int{1, 1}, [][]string{{"t0"}}, 2000, api.OK},
		{prior, final, [][]string{{"t0"}, nil}, 2000, api.OK},
	} {
		found, e := Log(c.n, c.final, c.log, c.limit)
		none(t, i, found, e, c.e)
	}
}

// independent has that many cycles, each with a token.
func independent(cycles int) api.Net {
	var list []ends
	var marked []int
	for i := range cycles {
		p, q := 2*i, 2*i+1
		list = append(list, ends{{p}, {q}}, ends{{q}, {p}})
		marked = append(marked, p)
	}
	return nettest.Marked(nettest.Ordinary(2*cycles, list...), marked...)
}

// TestManyStates has nets with so many markings, each with so many predecessors, that backward analysis cannot examine all of them one by one in a short time.
func TestManyStates(t *testing.T) {
	moving := sequence()
	moving.Places[0].Init = 500
	for i, n := range []api.Net{independent(8), moving} {
		found, e := Net(n, 2000)
		none(t, i, found, e, api.OK)
	}
}

// shapes are those of random nets.
var shapes = []nettest.Shape{
	{Places: 5, Trans: 5, Tokens: 2, Weight: 2},
	{Places: 4, Trans: 6, Tokens: 3, Weight: 1},
	{Places: 3, Trans: 4, Tokens: 9, Weight: 4},
	{Places: 8, Trans: 8, Tokens: 1, Weight: 1},
	{Places: 5, Trans: 5, Tokens: 2, Weight: 1, Cap: 2},
	{Places: 5, Trans: 5, Tokens: 2, Weight: 2, Inh: 3},
	{Places: 5, Trans: 7, Tokens: 2, Weight: 2, Prio: 3},
	{Places: 6, Trans: 6, Tokens: 3, Weight: 3, Cap: 3, Inh: 2, Prio: 2},
}

func TestRandomNets(t *testing.T) {
	complete := make([]int, len(shapes)+3)
	for seed := range uint64(2200) {
		k := int(seed) % len(complete)
		var n api.Net
		switch k - len(shapes) {
		case 0:
			n = nettest.Admitting(seed)
		case 1:
			n = nettest.Parts(seed, 2, 3, 6)
		case 2:
			n = nettest.Marked(nettest.Flow(seed, 5, int(seed%3)), 0)
		default:
			n = nettest.Random(seed, shapes[k])
		}
		found, e := Net(n, 60)
		if g, f := explore.Explore(n, 60); f != api.OK || g.Complete != (e == api.OK) || e != api.OK && e != api.ErrLimit || len(found) > 0 {
			t.Fatal(n, found, e)
		}
		if e == api.OK {
			complete[k]++
		}
	}
	if slices.Min(complete) < 40 {
		t.Error("too few complete state graphs", complete)
	}
}

func TestRandomColoredNets(t *testing.T) {
	complete := 0
	for seed := range uint64(600) {
		c := nettest.Colored(seed)
		found, e := Colored(c, 100)
		if _, all, f := colored.Explore(c, 100); f != api.OK || all != (e == api.OK) || e != api.OK && e != api.ErrLimit || len(found) > 0 {
			t.Fatal(c, found, e)
		}
		if e == api.OK {
			complete++
		}
	}
	if complete < 200 {
		t.Error(complete)
	}
}

func TestRandomWorkflows(t *testing.T) {
	verdicts := map[bool]int{}
	for seed := range uint64(600) {
		n := nettest.Flow(seed, 1+int(seed%9), int(seed%4))
		found, e := Workflow(n, 200)
		sound, f := soundness.Sound(n, 200)
		if len(found) > 0 || e != f {
			t.Fatal(n, found, e, f)
		}
		if e == api.OK {
			verdicts[sound]++
		}
	}
	if verdicts[true] < 100 || verdicts[false] < 100 {
		t.Error(verdicts)
	}
}

func TestRandomSystems(t *testing.T) {
	kinds := map[bool]int{}
	for seed := range uint64(600) {
		n := nettest.Random(seed, nettest.Shape{Places: 5, Trans: 4, Tokens: 1, Weight: 1})
		for p := range n.Places {
			n.Places[p].Cap = 1
		}
		s, _ := synth.Of(n, 12)
		if len(s.Arcs) > 0 && seed%3 == 0 {
			s.Arcs[0].To = s.States - 1
		}
		found, e := System(s)
		if len(found) > 0 || e != system.Check(s).Errno {
			t.Fatal(s, found, e)
		}
		elementary, _ := synth.Elementary(s)
		kinds[elementary]++
	}
	if kinds[true] < 50 || kinds[false] < 50 {
		t.Error(kinds)
	}
}

// walk returns the names of the transitions of a random walk, one of which may be left out or be another one.
func walk(r *rand.Rand, n api.Net, g api.Graph) []string {
	var trace []string
	state := 0
	for range r.Intn(7) {
		next := explore.Next(g, state)
		if len(next) == 0 {
			break
		}
		edge := next[r.Intn(len(next))]
		state = edge.To
		trace = append(trace, n.Trans[edge.Trans].Name)
	}
	if i := r.Intn(10); i < len(trace) && r.Intn(2) == 0 {
		trace = slices.Delete(trace, i, i+1)
	} else if i < len(trace) {
		trace[i] = "x"
	}
	return trace
}

func TestRandomLogs(t *testing.T) {
	r := rand.New(rand.NewSource(56))
	complete := 0
	for seed := range uint64(400) {
		n := nettest.Random(seed, shapes[int(seed)%len(shapes)])
		for i := range n.Trans {
			if seed%3 == 0 && r.Intn(4) == 0 {
				n.Trans[i].Name = "_" + strconv.Itoa(i)
			}
		}
		g, e := explore.Explore(n, 60)
		if e != api.OK {
			t.Fatal(n, e)
		}
		final := g.States[r.Intn(len(g.States))]
		log := [][]string{walk(r, n, g), walk(r, n, g), walk(r, n, g)}
		found, e := Log(n, final, log, 60)
		if len(found) > 0 || g.Complete != (e == api.OK) || e != api.OK && e != api.ErrLimit {
			t.Fatal(n, final, log, found, e)
		}
		if e == api.OK {
			complete++
		}
	}
	if complete < 150 {
		t.Error(complete)
	}
}

func TestArgumentsAreKept(t *testing.T) {
	n, c, s := cycle(), nettest.Colored(3), ring(3)
	final, log := net.Initial(n), [][]string{{"t0", "t1"}, {"t0"}}
	Net(n, 100)
	Colored(c, 100)
	Workflow(n, 100)
	System(s)
	Log(n, final, log, 100)
	if !net.Same(n, cycle()) || !reflect.DeepEqual(c, nettest.Colored(3)) || !reflect.DeepEqual(s, ring(3)) {
		t.Error(n, c, s)
	}
	if !slices.Equal(final, []int{1, 0}) || !reflect.DeepEqual(log, [][]string{{"t0", "t1"}, {"t0"}}) {
		t.Error(final, log)
	}
}
