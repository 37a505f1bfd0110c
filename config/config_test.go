package config

import (
	"math"
	"math/rand"
	"slices"
	"testing"

	"petrinet/api"
	"petrinet/branching"
	"petrinet/firing"
	"petrinet/net"
	"petrinet/nettest"
)

func equalLists(a, b [][]int) bool {
	return slices.EqualFunc(a, b, slices.Equal[[]int])
}

// cycle is a net of two places, and its process with two events.
func cycle(t *testing.T) (api.Net, api.Branching) {
	n := nettest.Ordinary(2, [2][]int{{0}, {1}}, [2][]int{{1}, {0}})
	n.Places[0].Init = 1
	return n, grown(t, n, []int{0, 0}, []int{1, 1})
}

// grown returns the process of a net to which the given pairs were added.
func grown(t *testing.T, n api.Net, pairs ...[]int) api.Branching {
	t.Helper()
	b, e := branching.Initial(n)
	for _, pair := range pairs {
		if e == api.OK {
			b, e = branching.Add(n, b, pair[0], pair[1:])
		}
	}
	if e != api.OK {
		t.Fatal(e)
	}
	return b
}

// choice is a net with the places p0 (one token) to p4, and a process: t0 (p0 to p1 and p2) is in conflict with t1 (p0 to p3); t2 takes p1, t3 takes p2; t4 takes p3.
func choice(t *testing.T) (api.Net, api.Branching) {
	n := nettest.Ordinary(5, [2][]int{{0}, {1, 2}}, [2][]int{{0}, {3}}, [2][]int{{1}, {4}}, [2][]int{{2}, nil}, [2][]int{{3}, {3}})
	n.Places[0].Init = 1
	// The conditions: p0; p1 p2 of event 0; p3 of event 1; p4 of event 2; none of event 3; p3 of event 4.
	return n, grown(t, n, []int{0, 0}, []int{1, 0}, []int{2, 1}, []int{3, 2}, []int{4, 3})
}

func TestExamples(t *testing.T) {
	n, b := cycle(t)
	for _, c := range []struct {
		events, cut, marking, linear, extensions []int
	}{
		{nil, []int{0}, []int{1, 0}, nil, []int{0}},
		{[]int{0}, []int{1}, []int{0, 1}, []int{0}, []int{1}},
		{[]int{0, 1}, []int{2}, []int{1, 0}, []int{0, 1}, nil},
	} {
		if !Is(b, c.events) {
			t.Error(c.events)
		}
		if l, e := Cut(b, c.events); e != api.OK || !slices.Equal(l, c.cut) {
			t.Error("Cut", c.events, l, e)
		}
		if l, e := Marking(n, b, c.events); e != api.OK || !slices.Equal(l, c.marking) {
			t.Error("Marking", c.events, l, e)
		}
		if l, e := Linear(b, c.events); e != api.OK || !slices.Equal(l, c.linear) {
			t.Error("Linear", c.events, l, e)
		}
		if l, e := Extensions(b, c.events); e != api.OK || !slices.Equal(l, c.extensions) {
			t.Error("Extensions", c.events, l, e)
		}
	}
	if l, e := All(b, 3); e != api.OK || !equalLists(l, [][]int{nil, {0}, {0, 1}}) {
		t.Error(l, e)
	}
}

func TestChoice(t *testing.T) {
	n, b := choice(t)
	all := [][]int{nil, {0}, {1}, {0, 2}, {0, 3}, {1, 4}, {0, 2, 3}}
	if l, e := All(b, 7); e != api.OK || !equalLists(l, all) {
		t.Error(l, e)
	}
	if l, e := All(b, 6); e != api.ErrLimit || len(l) != 0 {
		t.Error(l, e)
	}
	if l, e := Cut(b, []int{0, 3}); e != api.OK || !slices.Equal(l, []int{1}) {
		t.Error(l, e)
	}
	if l, e := Marking(n, b, []int{0, 2}); e != api.OK || !slices.Equal(l, []int{0, 0, 1, 0, 1}) {
		t.Error(l, e)
	}
	if l, e := Extensions(b, []int{0}); e != api.OK || !slices.Equal(l, []int{2, 3}) {
		t.Error(l, e)
	}
	if l := Local(b, 4); !slices.Equal(l, []int{1, 4}) {
		t.Error(l)
	}
	for _, e := range []int{-1, 5, math.MinInt, math.MaxInt} {
		if l := Local(b, e); len(l) != 0 {
			t.Error(e, l)
		}
	}
	for _, c := range [][]int{{2}, {0, 1}, {0, 4}, {1, 2}, {0, 0}, {2, 0}, {0, 3, 2}, {-1}, {5}, {-1, 0}, {0, 5}, {math.MinInt}, {math.MaxInt}} {
		checkNone(t, n, b, c)
	}
}

// checkNone checks that c is no configuration.
func checkNone(t *testing.T, n api.Net, b api.Branching, c []int) {
	t.Helper()
	if Is(b, c) {
		t.Error("Is", c)
	}
	if l, e := Cut(b, c); e != api.ErrState || len(l) != 0 {
		t.Error("Cut", c, l, e)
	}
	if l, e := Linear(b, c); e != api.ErrState || len(l) != 0 {
		t.Error("Linear", c, l, e)
	}
	if l, e := Extensions(b, c); e != api.ErrState || len(l) != 0 {
		t.Error("Extensions", c, l, e)
	}
	want := api.ErrState
	if f := branching.Check(n, b); f.Errno != api.OK {
		want = f.Errno
	}
	if l, e := Marking(n, b, c); e != want || len(l) != 0 {
		t.Error("Marking", c, l, e)
	}
}

// An event that consumes nothing is always possible, but only once.
func TestFreeEvents(t *testing.T) {
	n, _ := cycle(t)
	b := api.Branching{Events: []api.Event{{}, {}}}
	if !Is(b, []int{0, 1}) || !Is(b, []int{1}) {
		t.Error("Is")
	}
	if l, e := Extensions(b, []int{1}); e != api.OK || !slices.Equal(l, []int{0}) {
		t.Error(l, e)
	}
	checkNone(t, n, b, []int{0, 0})
	checkNone(t, n, b, []int{1, 0})
}

func TestMarkingErrors(t *testing.T) {
	n, b := choice(t)
	twice := n
	twice.Places = slices.Clone(n.Places)
	twice.Places[0].Init = 2
	prior := n
	prior.Trans = slices.Clone(n.Trans)
	prior.Trans[0].Prio = 1
	changed := grown(t, n)
	changed.Conds[0].Place = 3
	for i, c := range []struct {
		n      api.Net
		b      api.Branching
		events []int
		e      api.Errno
	}{
		{api.Net{}, b, []int{9}, api.ErrName},
		{prior, b, nil, api.ErrKind},
		{twice, b, nil, api.ErrUnsafe},
		{n, changed, nil, api.ErrInit},
		{n, api.Branching{Conds: b.Conds, Events: b.Events[:4]}, nil, api.ErrSize},
		{n, b, []int{1, 2}, api.ErrState},
		{n, b, nil, api.OK},
	} {
		if l, e := Marking(c.n, c.b, c.events); e != c.e || e != api.OK && len(l) != 0 {
			t.Errorf("case %d: %v %v", i, l, e)
		}
	}
}

func TestAllErrors(t *testing.T) {
	_, b := cycle(t)
	for _, limit := range []int{0, -1, 5001, math.MaxInt, math.MinInt} {
		if l, e := All(b, limit); e != api.ErrRange || len(l) != 0 {
			t.Error(limit, l, e)
		}
		if l, e := All(api.Branching{Conds: []api.Cond{{From: 7}}}, limit); e != api.ErrRange || len(l) != 0 {
			t.Error(limit, l, e)
		}
	}
	if l, e := All(b, 1); e != api.ErrLimit || len(l) != 0 {
		t.Error(l, e)
	}
	if l, e := All(b, 5000); e != api.OK || len(l) != 3 {
		t.Error(l, e)
	}
	if l, e := All(api.Branching{}, 1); e != api.OK || !equalLists(l, [][]int{nil}) {
		t.Error(l, e)
	}
}

func TestNotFounded(t *testing.T) {
	n, _ := cycle(t)
	for i, b := range []api.Branching{
		{Conds: []api.Cond{{From: -2}}},
		{Conds: []api.Cond{{From: 0}}},
		{Conds: []api.Cond{{From: -1}}, Events: []api.Event{{Pre: []int{1}}}},
		{Conds: []api.Cond{{From: -1}}, Events: []api.Event{{Pre: []int{-1}}}},
		{Conds: []api.Cond{{From: 0}}, Events: []api.Event{{Pre: []int{0}}}},
		{Conds: []api.Cond{{From: 1}}, Events: []api.Event{{Pre: []int{0}}, {}}},
	} {
		for _, c := range [][]int{nil, {0}, {0, 1}} {
			checkNone(t, n, b, c)
		}
		if l, e := All(b, 10); e != api.OK || len(l) != 0 {
			t.Error(i, l, e)
		}
		if l := Local(b, 0); len(l) != 0 {
			t.Error(i, l)
		}
	}
}

// defined reports whether c is a configuration of a well-founded process by the definition.
func defined(b api.Branching, c []int) bool {
	for i, e := range c {
		if e < 0 || e >= len(b.Events) || i > 0 && c[i-1] >= e {
			return false
		}
	}
	for _, e := range c {
		for _, f := range branching.Causes(b, e) {
			if !slices.Contains(c, f) {
				return false
			}
		}
		for _, f := range c {
			if branching.Conflict(b, e, f) {
				return false
			}
		}
	}
	return true
}

// definedCut returns the cut by the definition.
func definedCut(b api.Branching, c []int) []int {
	var cut []int
	for i, cond := range b.Conds {
		consumed := slices.ContainsFunc(c, func(e int) bool { return slices.Contains(b.Events[e].Pre, i) })
		if (cond.From == -1 || slices.Contains(c, cond.From)) && !consumed {
			cut = append(cut, i)
		}
	}
	return cut
}

// checkAll compares all results for a well-founded process with few events with the definitions.
func checkAll(t *testing.T, b api.Branching) [][]int {
	t.Helper()
	var all [][]int
	for set := range 1 << len(b.Events) {
		var c []int
		for e := range b.Events {
			if set>>e&1 == 1 {
				c = append(c, e)
			}
		}
		is := defined(b, c)
		if Is(b, c) != is {
			t.Fatal("Is", b, c, is)
		}
		if !is {
			continue
		}
		all = append(all, c)
		cut := definedCut(b, c)
		if l, e := Cut(b, c); e != api.OK || !slices.Equal(l, cut) {
			t.Fatal("Cut", b, c, l, e)
		}
		var extensions, linear []int
		for e, event := range b.Events {
			inside := !slices.ContainsFunc(event.Pre, func(i int) bool { return !slices.Contains(cut, i) })
			if slices.Contains(c, e) {
				linear = append(linear, event.Trans)
			} else if inside {
				extensions = append(extensions, e)
			}
		}
		if l, e := Extensions(b, c); e != api.OK || !slices.Equal(l, extensions) {
			t.Fatal("Extensions", b, c, l, e)
		}
		if l, e := Linear(b, c); e != api.OK || !slices.Equal(l, linear) {
			t.Fatal("Linear", b, c, l, e)
		}
		for _, e := range extensions {
			more := append(slices.Clone(c), e)
			slices.Sort(more)
			if !Is(b, more) {
				t.Fatal("an extension", b, c, e)
			}
		}
	}
	slices.SortFunc(all, func(x, y []int) int {
		if len(x) != len(y) {
			return len(x) - len(y)
		}
		return slices.Compare(x, y)
	})
	if l, e := All(b, max(1, len(all))); e != api.OK || !equalLists(l, all) {
		t.Fatal("All", b, l, e, all)
	}
	if l, e := All(b, len(all)-1); len(all) > 1 && e != api.ErrLimit || len(l) != 0 {
		t.Fatal("All", b, l, e)
	}
	return all
}

// Well-founded processes need not be branching processes: events may consume a condition twice, or nothing.
func TestAnyProcess(t *testing.T) {
	r := rand.New(rand.NewSource(27))
	for range 500 {
		var b api.Branching
		for range 1 + r.Intn(6) {
			b.Conds = append(b.Conds, api.Cond{Place: r.Intn(9) - 4, From: -1})
		}
		events := r.Intn(8)
		for e := range events {
			for range r.Intn(3) {
				b.Conds = append(b.Conds, api.Cond{Place: r.Intn(9), From: e})
			}
		}
		r.Shuffle(len(b.Conds), func(i, k int) { b.Conds[i], b.Conds[k] = b.Conds[k], b.Conds[i] })
		for e := range events {
			event := api.Event{Trans: r.Intn(9) - 4, Post: []int{r.Intn(99)}}
			for range r.Intn(4) {
				if c := r.Intn(len(b.Conds)); b.Conds[c].From < e {
					event.Pre = append(event.Pre, c)
				}
			}
			b.Events = append(b.Events, event)
		}
		checkAll(t, b)
	}
}

func TestProcessesOfNets(t *testing.T) {
	r := rand.New(rand.NewSource(28))
	large := 0
	for seed := range uint64(900) {
		n := nettest.Random(seed, nettest.Shape{Places: 7, Trans: 9, Tokens: 1, Weight: 1})
		n.Trans = slices.DeleteFunc(n.Trans, func(t api.Trans) bool { return len(t.Pre) == 0 })
		b := grown(t, n)
		for len(b.Events) < 9 && len(b.Conds) < 30 {
			pairs := branching.Possible(n, b)
			if len(pairs) == 0 {
				break
			}
			pair := pairs[r.Intn(len(pairs))]
			b, _ = branching.Add(n, b, pair[0], pair[1:])
		}
		all := checkAll(t, b)
		if len(all) > 12 {
			large++
		}
		for _, c := range all {
			seq, e := Linear(b, c)
			m, f := Marking(n, b, c)
			after, g := firing.Run(n, net.Initial(n), seq)
			if e != api.OK || f != api.OK || g != (api.Fault{}) || !slices.Equal(m, after) {
				t.Fatal(n, b, c, m, after, e, f, g)
			}
		}
		for e := range b.Events {
			local := Local(b, e)
			if !Is(b, local) || !slices.Contains(local, e) {
				t.Fatal("Local", b, e, local)
			}
			for _, c := range all {
				if slices.Contains(c, e) && slices.ContainsFunc(local, func(f int) bool { return !slices.Contains(c, f) }) {
					t.Fatal("Local", b, e, local, c)
				}
			}
		}
	}
	if large < 50 {
		t.Error(large)
	}
}

func TestManyConfigurations(t *testing.T) {
	// Twelve independent events have 4096 configurations, thirteen have too many.
	n := api.Net{Name: "n"}
	var pairs [][]int
	for i := range 13 {
		n.Places = append(n.Places, api.Place{Name: "p" + string(rune('a'+i)), Init: 1})
		n.Trans = append(n.Trans, api.Trans{Name: "t" + string(rune('a'+i)), Pre: nettest.Ones(i)})
		pairs = append(pairs, []int{i, i})
	}
	if l, e := All(grown(t, n, pairs[:12]...), 5000); e != api.OK || len(l) != 4096 {
		t.Error(len(l), e)
	}
	if l, e := All(grown(t, n, pairs...), 5000); e != api.ErrLimit || len(l) != 0 {
		t.Error(len(l), e)
	}
	// A chain that is far longer than the limit.
	var b api.Branching
	b.Conds = []api.Cond{{From: -1}}
	for e := range 100000 {
		b.Conds = append(b.Conds, api.Cond{From: e})
		b.Events = append(b.Events, api.Event{Pre: []int{e}})
	}
	if l, e := All(b, 5000); e != api.ErrLimit || len(l) != 0 {
		t.Error(len(l), e)
	}
	b.Events, b.Conds = b.Events[:4999], b.Conds[:5000]
	if l, e := All(b, 5000); e != api.OK || len(l) != 5000 || len(l[4999]) != 4999 {
		t.Error(len(l), e)
	}
}

func TestSharesNoMemory(t *testing.T) {
	_, b := choice(t)
	l, _ := All(b, 100)
	for i, c := range l {
		before := make([][]int, len(l))
		for k := range l {
			before[k] = slices.Clone(l[k])
		}
		for k := range c {
			c[k] = 99
		}
		before[i] = c
		if !equalLists(l, before) {
			t.Fatal("configurations share memory", i)
		}
	}
	_, same := choice(t)
	if again, e := All(b, 100); e != api.OK || len(again) != len(l) || !slices.Equal(b.Events[2].Pre, same.Events[2].Pre) {
		t.Error("the argument was changed")
	}
}
