package prefix

import (
	"math"
	"math/rand"
	"slices"
	"testing"

	"petrinet/adequate"
	"petrinet/api"
	"petrinet/branching"
	"petrinet/config"
	"petrinet/net"
	"petrinet/nettest"
)

type ends = [2][]int

// cycle has the places p and q with one token on p, and a transition in each direction.
func cycle() api.Net {
	return nettest.Marked(nettest.Ordinary(2, ends{{0}, {1}}, ends{{1}, {0}}), 0)
}

func cyclePrefix() api.Branching {
	return api.Branching{
		Conds:  []api.Cond{{Place: 0, From: -1}, {Place: 1, From: 0}, {Place: 0, From: 1}},
		Events: []api.Event{{Trans: 0, Pre: []int{0}, Post: []int{1}}, {Trans: 1, Pre: []int{1}, Post: []int{2}, Cut: true}},
	}
}

// diamond has two concurrent transitions, a transition that joins them, and one that does the same at once; then a transition leads back to the place of the first one.
func diamond() api.Net {
	return nettest.Marked(nettest.Ordinary(5, ends{{0}, {2}}, ends{{1}, {3}}, ends{{2, 3}, {4}}, ends{{0, 1}, {4}}, ends{{4}, {0, 3}}), 0, 1)
}

func isZero(b api.Branching) bool {
	return len(b.Conds) == 0 && len(b.Events) == 0
}

func same(a, b api.Branching) bool {
	return slices.Equal(a.Conds, b.Conds) && slices.EqualFunc(a.Events, b.Events, equal)
}

func clone(b api.Branching) api.Branching {
	c := api.Branching{Conds: slices.Clone(b.Conds)}
	for _, e := range b.Events {
		e.Pre, e.Post = slices.Clone(e.Pre), slices.Clone(e.Post)
		c.Events = append(c.Events, e)
	}
	return c
}

func TestExamples(t *testing.T) {
	b, e := Build(cycle(), 2)
	if e != api.OK || !same(b, cyclePrefix()) {
		t.Error(b, e)
	}
	if c := Cutoffs(b); !slices.Equal(c, []int{1}) {
		t.Error(c)
	}
	if f, ok := Corresponding(cycle(), b, 1); f != -1 || !ok {
		t.Error(f, ok)
	}
	if conds, events, cutoffs := Size(b); conds != 3 || events != 2 || cutoffs != 1 {
		t.Error(conds, events, cutoffs)
	}
	loop := nettest.Marked(nettest.Ordinary(1, ends{{0}, {0}}), 0)
	b, e = Build(loop, 1)
	if e != api.OK || !same(b, api.Branching{Conds: []api.Cond{{From: -1}, {From: 0}}, Events: []api.Event{{Pre: []int{0}, Post: []int{1}, Cut: true}}}) {
		t.Error(b, e)
	}
}

func TestDiamond(t *testing.T) {
	b, e := Build(diamond(), 100)
	want := api.Branching{
		Conds: []api.Cond{
			{Place: 0, From: -1}, {Place: 1, From: -1}, {Place: 2, From: 0}, {Place: 3, From: 1}, {Place: 4, From: 2},
			{Place: 0, From: 3}, {Place: 3, From: 3}, {Place: 4, From: 4},
		},
		Events: []api.Event{
			{Trans: 0, Pre: []int{0}, Post: []int{2}},
			{Trans: 1, Pre: []int{1}, Post: []int{3}},
			{Trans: 3, Pre: []int{0, 1}, Post: []int{4}},
			// The first two events have another marking than the third one; the markings of the last ones are those of events 1 and 2.
			{Trans: 4, Pre: []int{4}, Post: []int{5, 6}, Cut: true},
			{Trans: 2, Pre: []int{2, 3}, Post: []int{7}, Cut: true},
		},
	}
	if e != api.OK || !same(b, want) {
		t.Fatal(b, e)
	}
	for cut, earlier := range map[int]int{3: 1, 4: 2} {
		if f, ok := Corresponding(diamond(), b, cut); f != earlier || !ok {
			t.Error(cut, f, ok)
		}
	}
}

func TestSmallNets(t *testing.T) {
	for i, c := range []struct {
		n                      api.Net
		conds, events, cutoffs int
	}{
		{nettest.Ordinary(1), 0, 0, 0},
		{nettest.Marked(nettest.Ordinary(2), 1), 1, 0, 0},
		// Nothing is enabled.
		{nettest.Ordinary(2, ends{{0}, {1}}), 0, 0, 0},
		{nettest.Marked(nettest.Ordinary(2, ends{{0, 1}, {1}}), 0), 1, 0, 0},
		// Two transitions without output lead to the same marking; the first one is less.
		{nettest.Marked(nettest.Ordinary(1, ends{{0}, nil}, ends{{0}, nil}), 0), 1, 2, 1},
		// Two independent transitions lead to different markings.
		{nettest.Marked(nettest.Ordinary(4, ends{{0}, {1}}, ends{{2}, {3}}), 0, 2), 4, 2, 0},
		// Each of them can be repeated.
		{nettest.Marked(nettest.Ordinary(2, ends{{0}, {0}}, ends{{1}, {1}}), 0, 1), 4, 2, 2},
	} {
		b, e := Build(c.n, max(1, c.events))
		if conds, events, cutoffs := Size(b); e != api.OK || conds != c.conds || events != c.events || cutoffs != c.cutoffs {
			t.Error(i, b, e)
		}
		if !Complete(c.n, b) {
			t.Error(i, "not complete")
		}
	}
}

func TestErrors(t *testing.T) {
	changed := func(change func(n *api.Net)) api.Net {
		n := diamond()
		change(&n)
		return n
	}
	for i, c := range []struct {
		n     api.Net
		limit int
		e     api.Errno
	}{
		{api.Net{}, 0, api.ErrName},
		{changed(func(n *api.Net) { n.Trans[0].Name = "p0" }), 0, api.ErrTwice},
		{changed(func(n *api.Net) { n.Trans[0].Prio = 1 }), 0, api.ErrKind},
		{changed(func(n *api.Net) { n.Places[0].Cap = 1 }), 10, api.ErrKind},
		{changed(func(n *api.Net) { n.Trans[0].Inh = nettest.Ones(3) }), 10, api.ErrKind},
		{changed(func(n *api.Net) { n.Trans[0].Post[0].W = 2 }), 10, api.ErrKind},
		{changed(func(n *api.Net) { n.Trans[0].Pre = nil }), -1, api.ErrKind},
		{changed(func(n *api.Net) { n.Places[0].Init = 2 }), 0, api.ErrUnsafe},
		{diamond(), 0, api.ErrRange},
		{diamond(), -1, api.ErrRange},
		{diamond(), math.MinInt, api.ErrRange},
		{diamond(), api.MaxEvents + 1, api.ErrRange},
		{diamond(), math.MaxInt, api.ErrRange},
		{diamond(), 1, api.ErrLimit},
		{diamond(), 4, api.ErrLimit},
		{diamond(), 5, api.OK},
		{diamond(), api.MaxEvents, api.OK},
		// The output meets an initial condition with its place, at once or as the second event.
		{nettest.Marked(nettest.Ordinary(2, ends{{0}, {1}}), 0, 1), 1, api.ErrUnsafe},
		{nettest.Marked(nettest.Ordinary(3, ends{{0}, {1}}, ends{{1}, {2}}), 0, 2), 1, api.ErrLimit},
		{nettest.Marked(nettest.Ordinary(3, ends{{0}, {1}}, ends{{1}, {2}}), 0, 2), 2, api.ErrUnsafe},
		// The output of a transition meets that of another one, or of a cut-off event.
		{nettest.Marked(nettest.Ordinary(3, ends{{0}, {2}}, ends{{1}, {2}}), 0, 1), 2, api.ErrUnsafe},
		{nettest.Marked(nettest.Ordinary(4, ends{{0}, {2}}, ends{{0}, {2}}, ends{{1}, {3}}, ends{{3}, {2}}), 0, 1), 9, api.ErrUnsafe},
		// The output of the second one, a cut-off event, meets that of the third one, which is in conflict with the first one.
		{nettest.Marked(nettest.Ordinary(3, ends{{0, 1}, {1, 2}}, ends{{0}, {2}}, ends{{1}, {2}}), 0, 1), 2, api.ErrLimit},
		{nettest.Marked(nettest.Ordinary(3, ends{{0, 1}, {1, 2}}, ends{{0}, {2}}, ends{{1}, {2}}), 0, 1), 3, api.ErrUnsafe},
		// The place has a second token only where the first one has been taken, or cannot be.
		{nettest.Marked(nettest.Ordinary(2, ends{{0, 1}, {1}}), 0, 1), 9, api.OK},
		{nettest.Marked(nettest.Ordinary(2, ends{{0}, {1}}, ends{{0}, {1}}), 0), 9, api.OK},
	} {
		b, e := Build(c.n, c.limit)
		if e != c.e || e != api.OK && !isZero(b) {
			t.Error(i, b, e)
		}
		if Complete(c.n, api.Branching{}) {
			t.Error(i, "complete")
		}
		if f, ok := Corresponding(c.n, cyclePrefix(), 1); f != -1 || ok {
			t.Error(i, f, ok)
		}
	}
}

// cutAfter reports whether the marking of a later event makes it a cut-off event because of an earlier one.
func cutAfter(n api.Net, b api.Branching, f, e int) bool {
	earlier, _ := config.Marking(n, b, config.Local(b, f))
	m, _ := config.Marking(n, b, config.Local(b, e))
	return !b.Events[f].Cut && slices.Equal(earlier, m) && adequate.Compare(b, config.Local(b, f), config.Local(b, e)) == -1
}

// correspondingByDefinition is Corresponding for an event of a process that passes branching.Check.
func correspondingByDefinition(n api.Net, b api.Branching, e int) (int, bool) {
	if m, _ := config.Marking(n, b, config.Local(b, e)); slices.Equal(m, net.Initial(n)) {
		return -1, true
	}
	for f := range e {
		if cutAfter(n, b, f, e) {
			return f, true
		}
	}
	return -1, false
}

// buildByDefinition is Build for a net that admits processes, and a limit that is in its range.
func buildByDefinition(n api.Net, limit int) (api.Branching, api.Errno) {
	b, _ := branching.Initial(n)
	for {
		pairs := slices.DeleteFunc(branching.Possible(n, b), func(pair []int) bool {
			return slices.ContainsFunc(pair[1:], func(c int) bool { return b.Conds[c].From >= 0 && b.Events[b.Conds[c].From].Cut })
		})
		if len(pairs) == 0 {
			return b, api.OK
		}
		if len(b.Events) == limit {
			return api.Branching{}, api.ErrLimit
		}
		// Of several least pairs, MinFunc takes the first one.
		least := slices.MinFunc(pairs, func(x, y []int) int {
			both, _ := branching.Add(n, b, x[0], x[1:])
			both, _ = branching.Add(n, both, y[0], y[1:])
			return adequate.Compare(both, config.Local(both, len(b.Events)), config.Local(both, len(b.Events)+1))
		})
		b, _ = branching.Add(n, b, least[0], least[1:])
		last := len(b.Events) - 1
		_, b.Events[last].Cut = correspondingByDefinition(n, b, last)
		for _, c := range b.Events[last].Post {
			for d, cond := range b.Conds {
				if cond.Place == b.Conds[c].Place && branching.Concurrent(b, c, d) {
					return api.Branching{}, api.ErrUnsafe
				}
			}
		}
	}
}

// turns returns a safe net whose transitions can each be done once, in any order; each of them uses some of the resources and returns them, so that some can be done at once. The last transition comes after all.
func turns(r *rand.Rand, transitions, resources int) api.Net {
	var list []ends
	var last ends
	var marks []int
	for t := range transitions {
		var used []int
		for resource := range resources {
			if r.Intn(3) == 0 {
				used = append(used, resource)
			}
		}
		before, after := resources+2*t, resources+2*t+1
		list = append(list, ends{append(slices.Clone(used), before), append(used, after)})
		last[0] = append(last[0], after)
		marks = append(marks, before)
	}
	n := nettest.Ordinary(resources+2*transitions, append(list, last)...)
	for resource := range resources {
		marks = append(marks, resource)
	}
	return nettest.Marked(n, marks...)
}

// crossing returns a net in which transition 2 or 3 can occur together with 4, and after 5 the other one of them. Although their events have the same level, 2 comes after 3 and 4, as it follows 1 and these follow 0.
func crossing() api.Net {
	return nettest.Marked(nettest.Ordinary(9, ends{{0}, {3, 4}}, ends{{1}, {2}}, ends{{2, 5}, {7}}, ends{{3, 5}, {7}}, ends{{4, 6}, {8}}, ends{{7, 8}, {5, 6}}), 0, 1, 5, 6)
}

// many returns a net with many independent transitions, one of which puts a second token on a place.
func many(r *rand.Rand) api.Net {
	var list []ends
	var marks []int
	for _, place := range r.Perm(20) {
		list = append(list, ends{{place}, nil})
		marks = append(marks, place)
	}
	list[r.Intn(5)][1] = []int{20}
	return nettest.Marked(nettest.Ordinary(21, list...), append(marks, 20)...)
}

func TestByDefinition(t *testing.T) {
	r := rand.New(rand.NewSource(29))
	results := map[api.Errno]int{}
	large := 0
	compare := func(n api.Net, limit int) {
		t.Helper()
		b, e := Build(n, limit)
		want, f := buildByDefinition(n, limit)
		if e != f || !same(b, want) {
			t.Fatal(n, limit, b, e, want, f)
		}
		results[e]++
		if len(b.Events) > 8 {
			large++
		}
		checkPrefix(t, n, b, e)
	}
	for seed := range uint64(1000) {
		compare(nettest.Admitting(seed), 1+r.Intn(9))
		compare(nettest.Parts(r.Uint64(), 1+r.Intn(3), 2+r.Intn(2), 3+r.Intn(8)), 1+r.Intn(40))
	}
	for range 60 {
		compare(turns(r, 4, 3), 100)
	}
	compare(turns(r, 5, 4), 400)
	compare(crossing(), 100)
	for range 60 {
		compare(many(r), 1+r.Intn(7))
	}
	if results[api.OK] < 500 || results[api.ErrLimit] < 100 || results[api.ErrUnsafe] < 100 || large < 100 {
		t.Error("too few cases", results, large)
	}
}

// checkPrefix checks P29.2 and P29.3 for a result of Build.
func checkPrefix(t *testing.T, n api.Net, b api.Branching, e api.Errno) {
	t.Helper()
	if Complete(n, b) != (e == api.OK) {
		t.Fatal("Complete", n, b)
	}
	for i, event := range b.Events {
		f, ok := Corresponding(n, b, i)
		if slices.Contains(Cutoffs(b), i) != event.Cut || ok != event.Cut || !ok && f != -1 {
			t.Fatal("Cutoffs", n, b, i)
		}
		if g, _ := correspondingByDefinition(n, b, i); event.Cut && f != g {
			t.Fatal("Corresponding", n, b, i, f)
		}
	}
}

func TestComplete(t *testing.T) {
	n := diamond()
	b, _ := Build(n, 9)
	for i, change := range []func(b *api.Branching){
		func(b *api.Branching) { b.Events[3].Cut = false },
		func(b *api.Branching) { b.Events[0].Cut = true },
		func(b *api.Branching) { b.Events, b.Conds = b.Events[:4], b.Conds[:7] },
		func(b *api.Branching) { b.Events, b.Conds = nil, b.Conds[:2] },
		func(b *api.Branching) { b.Events, b.Conds = nil, nil },
		func(b *api.Branching) { b.Conds = b.Conds[:7] },
		func(b *api.Branching) { b.Conds = append(b.Conds, api.Cond{Place: 0, From: 4}) },
		func(b *api.Branching) { b.Conds[7].Place = 3 },
		func(b *api.Branching) { b.Conds[7].From = 3 },
		func(b *api.Branching) { b.Events[4].Trans = 3 },
		func(b *api.Branching) { b.Events[4].Pre[0] = 1 },
		func(b *api.Branching) { b.Events[4].Post = nil },
		// The events are the same in another order.
		func(b *api.Branching) {
			b.Events[0], b.Events[1] = b.Events[1], b.Events[0]
			b.Conds[2].From, b.Conds[3].From = 1, 0
		},
		func(b *api.Branching) { *b, _ = branching.Add(n, *b, 0, []int{5}) },
		func(b *api.Branching) { b.Events = append(b.Events, make([]api.Event, api.MaxEvents)...) },
	} {
		c := clone(b)
		change(&c)
		if Complete(n, c) {
			t.Error(i, c)
		}
	}
	if !Complete(n, b) || Complete(cycle(), b) || Complete(api.Net{}, b) || Complete(api.Net{}, api.Branching{}) {
		t.Error("Complete")
	}
	// Every part of the prefix of a net that is not safe is incomplete.
	unsafe := nettest.Marked(nettest.Ordinary(3, ends{{0}, {2}}, ends{{1}, {2}}), 0, 1)
	for b, _ := branching.Initial(unsafe); ; {
		if Complete(unsafe, b) {
			t.Error(b)
		}
		pairs := branching.Possible(unsafe, b)
		if len(pairs) == 0 {
			break
		}
		b, _ = branching.Add(unsafe, b, pairs[0][0], pairs[0][1:])
	}
}

func TestSizes(t *testing.T) {
	// The functions count, whatever the process is.
	b := api.Branching{Conds: make([]api.Cond, 7), Events: []api.Event{{Trans: -4, Cut: true}, {Pre: []int{99}}, {Cut: true}, {Cut: true}}}
	if c := Cutoffs(b); !slices.Equal(c, []int{0, 2, 3}) {
		t.Error(c)
	}
	if conds, events, cutoffs := Size(b); conds != 7 || events != 4 || cutoffs != 3 {
		t.Error(conds, events, cutoffs)
	}
	if conds, events, cutoffs := Size(api.Branching{}); conds != 0 || events != 0 || cutoffs != 0 || len(Cutoffs(api.Branching{})) != 0 {
		t.Error(conds, events, cutoffs)
	}
}

func TestCorresponding(t *testing.T) {
	r := rand.New(rand.NewSource(293))
	found := map[bool]int{}
	later := 0
	for seed := range uint64(400) {
		n := nettest.Admitting(seed)
		if seed%2 == 0 {
			n = nettest.Parts(r.Uint64(), 2, 2, 5)
		}
		b, _ := branching.Initial(n)
		for range 8 {
			if pairs := branching.Possible(n, b); len(pairs) > 0 && len(b.Conds) < 30 {
				pair := pairs[r.Intn(len(pairs))]
				b, _ = branching.Add(n, b, pair[0], pair[1:])
			}
		}
		// The process needs no prefix: its net need not be safe, and any events may be cut-off events.
		for e := range b.Events {
			b.Events[e].Cut = r.Intn(2) == 0
		}
		for e, event := range b.Events {
			f, ok := Corresponding(n, b, e)
			want, is := -1, false
			if event.Cut {
				want, is = correspondingByDefinition(n, b, e)
			}
			if f != want || ok != is {
				t.Fatal(n, b, e, f, ok)
			}
			found[ok]++
			if f >= 0 {
				later++
			}
		}
	}
	if found[true] < 200 || found[false] < 200 || later < 50 {
		t.Error("too few cases", found, later)
	}
}

func TestNothingCorresponding(t *testing.T) {
	n := cycle()
	for i, change := range []func(b *api.Branching){
		func(b *api.Branching) { b.Events[1].Cut = false },
		func(b *api.Branching) { b.Events[1].Pre = []int{0} },
		func(b *api.Branching) { b.Events[1].Pre = []int{9} },
		func(b *api.Branching) { b.Events[1].Trans = 7 },
		func(b *api.Branching) { b.Conds[1].Place = 77 },
		func(b *api.Branching) { b.Conds = nil },
		func(b *api.Branching) { b.Events = b.Events[:1] },
	} {
		b := cyclePrefix()
		change(&b)
		if f, ok := Corresponding(n, b, 1); f != -1 || ok {
			t.Error(i, f, ok)
		}
	}
	for _, e := range []int{-1, 0, 2, math.MinInt, math.MaxInt} {
		if f, ok := Corresponding(n, cyclePrefix(), e); f != -1 || ok {
			t.Error(e, f, ok)
		}
	}
	// The first event with the marking is less, the second one is not: its transition is greater.
	n = nettest.Marked(nettest.Ordinary(2, ends{{0}, {1}}, ends{{0}, {1}}), 0)
	b, _ := branching.Initial(n)
	b, _ = branching.Add(n, b, 1, []int{0})
	b, _ = branching.Add(n, b, 0, []int{0})
	b.Events[1].Cut = true
	if f, ok := Corresponding(n, b, 1); f != -1 || ok {
		t.Error(f, ok)
	}
	b.Events[0], b.Events[1] = b.Events[1], b.Events[0]
	b.Events[0].Post, b.Events[1].Post = b.Events[1].Post, b.Events[0].Post
	b.Events[0].Cut, b.Events[1].Cut = false, true
	if f, ok := Corresponding(n, b, 1); f != 0 || !ok {
		t.Error(f, ok)
	}
	b.Events[0].Cut = true
	if f, ok := Corresponding(n, b, 1); f != -1 || ok {
		t.Error(f, ok)
	}
}

// TestReachable checks P29.4.
func TestReachable(t *testing.T) {
	r := rand.New(rand.NewSource(294))
	cases := 0
	for seed := range uint64(1200) {
		n := nettest.Admitting(seed)
		if seed%2 == 0 {
			n = nettest.Parts(r.Uint64(), 1+r.Intn(3), 2+r.Intn(2), 2+r.Intn(5))
		}
		b, e := Build(n, api.MaxEvents)
		markings, all := nettest.Reachable(n, 2000)
		safe := !slices.ContainsFunc(markings, func(m []int) bool { return slices.Max(m) > 1 })
		if e == api.ErrLimit || !all {
			continue
		}
		if (e == api.OK) != safe || (e == api.ErrUnsafe) != !safe {
			t.Fatal(n, e)
		}
		if safe {
			checkReachable(t, n, b, markings)
			cases++
		}
	}
	if cases < 500 {
		t.Error("too few cases", cases)
	}
}

func checkReachable(t *testing.T, n api.Net, b api.Branching, reachable [][]int) {
	t.Helper()
	configurations, e := config.All(b, 5000)
	if e != api.OK {
		return
	}
	var markings [][]int
	for _, c := range configurations {
		if slices.ContainsFunc(c, func(e int) bool { return b.Events[e].Cut }) {
			continue
		}
		m, _ := config.Marking(n, b, c)
		markings = append(markings, m)
		for _, level := range adequate.Levels(b, c) {
			if level > len(reachable) {
				t.Fatal("level", n, b, c)
			}
		}
	}
	slices.SortFunc(markings, slices.Compare[[]int])
	markings = slices.CompactFunc(markings, slices.Equal[[]int])
	slices.SortFunc(reachable, slices.Compare[[]int])
	if !slices.EqualFunc(markings, reachable, slices.Equal[[]int]) {
		t.Fatal("markings", n, b, markings, reachable)
	}
	for i, trans := range n.Trans {
		fires := slices.ContainsFunc(reachable, func(m []int) bool {
			return !slices.ContainsFunc(trans.Pre, func(a api.Arc) bool { return m[a.Place] == 0 })
		})
		if fires != slices.ContainsFunc(b.Events, func(e api.Event) bool { return e.Trans == i }) {
			t.Fatal("transition", n, b, i)
		}
	}
}

// switches has parts with a place that each of the other places of the part, which are marked, can be emptied with, in any order, and a transition that joins the parts.
func switches(count, others int) api.Net {
	var list []ends
	var join, all []int
	for part := range count {
		first := part * (others + 1)
		join = append(join, first)
		all = append(all, first)
		for i := range others {
			all = append(all, first+1+i)
			list = append(list, ends{{first, first + 1 + i}, {first}})
		}
	}
	list = append(list, ends{join, nil})
	return nettest.Marked(nettest.Ordinary(count*(others+1), list...), all...)
}

func TestLarge(t *testing.T) {
	// There are 2^8 markings with the first place, each with a transition for each other place that is marked, and the joining one.
	n := switches(1, 8)
	b, e := Build(n, api.MaxEvents)
	if _, events, cutoffs := Size(b); e != api.OK || events != 8*128+256 || cutoffs != 8*128-255 || !Complete(n, b) {
		t.Error(events, cutoffs, e)
	}
	if b, e := Build(n, 8*128+255); e != api.ErrLimit || !isZero(b) {
		t.Error(e)
	}
	// Here hundreds of thousands of extensions are possible at once.
	if b, e := Build(switches(3, 6), api.MaxEvents); e != api.ErrLimit || !isZero(b) {
		t.Error(e)
	}
}

// counter counts with bits, which are two places each: a transition sets the first bit that is 0, and resets the ones before.
func counter(bits int) api.Net {
	var list []ends
	var marks []int
	for bit := range bits {
		var t ends
		for before := range bit {
			t[0] = append(t[0], 2*before+1)
			t[1] = append(t[1], 2*before)
		}
		list = append(list, ends{append(t[0], 2*bit), append(t[1], 2*bit+1)})
		marks = append(marks, 2*bit)
	}
	return nettest.Marked(nettest.Ordinary(2*bits, list...), marks...)
}

func TestLongChain(t *testing.T) {
	n := counter(10)
	b, e := Build(n, api.MaxEvents)
	if e != api.OK || len(b.Events) != 1023 || len(Cutoffs(b)) != 0 {
		t.Fatal(e, len(b.Events))
	}
	if l := config.Local(b, 1022); len(l) != 1023 {
		t.Error(len(l))
	}
	if _, e := Build(counter(11), api.MaxEvents); e != api.ErrLimit {
		t.Error(e)
	}
}

func TestSharesNoMemory(t *testing.T) {
	n := diamond()
	b, _ := Build(n, 9)
	kept := clone(b)
	for e := range b.Events {
		_ = append(b.Events[e].Pre, 99)
		_ = append(b.Events[e].Post, 99)
	}
	if !same(b, kept) || !net.Same(n, diamond()) {
		t.Error(b)
	}
	Complete(n, b)
	Corresponding(n, b, 4)
	Cutoffs(b)[0] = 99
	if !same(b, kept) {
		t.Error(b)
	}
	b.Conds[0].Place, b.Events[0].Pre[0] = 99, 99
	if again, _ := Build(n, 9); !same(again, kept) {
		t.Error(again)
	}
}
