package branching

import (
	"math"
	"math/rand"
	"slices"
	"testing"

	"petrinet/api"
	"petrinet/net"
	"petrinet/nettest"
)

var arcs = nettest.Ones

var made = nettest.Ordinary

// sample has a choice between t and u on p, and v that joins what t produces with r.
func sample() api.Net {
	return api.Net{
		Name:   "n",
		Places: []api.Place{{Name: "p", Init: 1}, {Name: "q"}, {Name: "r", Init: 1}, {Name: "s"}},
		Trans: []api.Trans{
			{Name: "t", Pre: arcs(0), Post: arcs(1, 3)},
			{Name: "u", Pre: arcs(0), Post: arcs(1)},
			{Name: "v", Pre: arcs(1, 2), Post: arcs(2)},
		},
	}
}

// sampleProcess is a process of the sample: t, u, and v after each of them.
func sampleProcess() api.Branching {
	return api.Branching{
		Conds: []api.Cond{{Place: 0, From: -1}, {Place: 2, From: -1}, {Place: 1, From: 0}, {Place: 3, From: 0}, {Place: 1, From: 1}, {Place: 2, From: 2}, {Place: 2, From: 3}},
		Events: []api.Event{
			{Trans: 0, Pre: []int{0}, Post: []int{2, 3}},
			{Trans: 1, Pre: []int{0}, Post: []int{4}},
			{Trans: 2, Pre: []int{1, 2}, Post: []int{5}},
			{Trans: 2, Pre: []int{1, 4}, Post: []int{6}, Cut: true},
		},
	}
}

func equal(a, b api.Branching) bool {
	return slices.Equal(a.Conds, b.Conds) && slices.EqualFunc(a.Events, b.Events, func(e, f api.Event) bool {
		return e.Trans == f.Trans && e.Cut == f.Cut && slices.Equal(e.Pre, f.Pre) && slices.Equal(e.Post, f.Post)
	})
}

func TestInitial(t *testing.T) {
	if b, e := Initial(sample()); e != api.OK || !equal(b, api.Branching{Conds: []api.Cond{{Place: 0, From: -1}, {Place: 2, From: -1}}}) {
		t.Error(b, e)
	}
	for i, c := range []struct {
		change func(n *api.Net)
		e      api.Errno
	}{
		{func(n *api.Net) { n.Trans[0].Name = "p" }, api.ErrTwice},
		{func(n *api.Net) { n.Places[1].Cap = 1 }, api.ErrKind},
		{func(n *api.Net) { n.Trans[1].Prio, n.Places[0].Init = 1, 2 }, api.ErrKind},
		{func(n *api.Net) { n.Trans[1].Inh = arcs(3) }, api.ErrKind},
		{func(n *api.Net) { n.Trans[1].Pre[0].W = 2 }, api.ErrKind},
		{func(n *api.Net) { n.Trans[1].Post[0].W = 2 }, api.ErrKind},
		{func(n *api.Net) { n.Trans[1].Pre, n.Places[0].Init = nil, 2 }, api.ErrKind},
		{func(n *api.Net) { n.Trans[1].Post = nil }, api.OK},
		{func(n *api.Net) { n.Places[3].Init = 2 }, api.ErrUnsafe},
		{func(n *api.Net) { n.Places[0].Init, n.Places[2].Init = 0, 0 }, api.OK},
	} {
		n := sample()
		c.change(&n)
		b, e := Initial(n)
		if e != c.e || len(b.Events) > 0 || e != api.OK && len(b.Conds) > 0 {
			t.Errorf("case %d: %v %d, want %d", i, b, e, c.e)
		}
		if f := Check(n, b); f != (api.Fault{Errno: c.e}) {
			t.Errorf("case %d: Check %v", i, f)
		}
		if e == api.OK {
			continue
		}
		if l := Possible(n, sampleProcess()); len(l) != 0 {
			t.Errorf("case %d: Possible %v", i, l)
		}
		if b, f := Add(n, sampleProcess(), 0, nil); f != c.e || !equal(b, api.Branching{}) {
			t.Errorf("case %d: Add %v %d", i, b, f)
		}
	}
}

func TestCheck(t *testing.T) {
	if f := Check(sample(), sampleProcess()); f != (api.Fault{}) {
		t.Fatal(f)
	}
	for i, c := range []struct {
		change func(b *api.Branching)
		errno  api.Errno
		at     int
	}{
		{func(b *api.Branching) { b.Events[3].Cut, b.Events[0].Cut = false, true }, api.OK, 0},
		{func(b *api.Branching) { b.Events, b.Conds = make([]api.Event, api.MaxEvents+1), nil }, api.ErrSize, 0},
		{func(b *api.Branching) { b.Events, b.Conds = make([]api.Event, api.MaxEvents), nil }, api.ErrInit, 0},
		{func(b *api.Branching) { b.Events, b.Conds = nil, b.Conds[:1] }, api.ErrInit, 0},
		{func(b *api.Branching) { b.Conds[1].Place = 3 }, api.ErrInit, 0},
		{func(b *api.Branching) { b.Conds[1].From = 0 }, api.ErrInit, 0},
		{func(b *api.Branching) { b.Conds[0], b.Conds[1] = b.Conds[1], b.Conds[0] }, api.ErrInit, 0},
		{func(b *api.Branching) { b.Events[1].Trans = 3 }, api.ErrRange, 1},
		{func(b *api.Branching) { b.Events[1].Trans, b.Events[1].Pre = -1, nil }, api.ErrRange, 1},
		{func(b *api.Branching) { b.Events[1].Pre = nil }, api.ErrSize, 1},
		{func(b *api.Branching) { b.Events[2].Pre = []int{2, 1, 1} }, api.ErrSize, 2},
		{func(b *api.Branching) { b.Events[2].Pre = []int{2, 1} }, api.ErrOrder, 2},
		{func(b *api.Branching) { b.Events[2].Pre = []int{99, 99} }, api.ErrOrder, 2},
		{func(b *api.Branching) { b.Events[2].Pre = []int{-1, 2} }, api.ErrNone, 2},
		{func(b *api.Branching) { b.Events[2].Pre = []int{1, 5} }, api.ErrNone, 2},
		{func(b *api.Branching) { b.Events[2].Pre = []int{1, 7} }, api.ErrNone, 2},
		{func(b *api.Branching) { b.Events[2].Pre = []int{1, math.MaxInt} }, api.ErrNone, 2},
		{func(b *api.Branching) { b.Events[1].Pre = []int{1} }, api.ErrType, 1},
		{func(b *api.Branching) { b.Events[2].Pre = []int{0, 3} }, api.ErrType, 2},
		{func(b *api.Branching) { b.Events[2].Pre = []int{2, 4} }, api.ErrType, 2},
		{func(b *api.Branching) { b.Events[3].Pre = []int{2, 5} }, api.ErrState, 3},
		{func(b *api.Branching) { b.Events[3].Pre = []int{4, 5} }, api.ErrState, 3},
		{func(b *api.Branching) { b.Events[3].Pre = []int{1, 2} }, api.ErrTwice, 3},
		{func(b *api.Branching) { b.Events[1].Trans = 0 }, api.ErrTwice, 1},
		{func(b *api.Branching) { b.Events[0].Post = []int{2} }, api.ErrNone, 0},
		{func(b *api.Branching) { b.Events[0].Post = []int{3, 2} }, api.ErrNone, 0},
		{func(b *api.Branching) { b.Events[0].Post = []int{2, 3, 4} }, api.ErrNone, 0},
		{func(b *api.Branching) { b.Events[1].Post = []int{5} }, api.ErrNone, 1},
		{func(b *api.Branching) { b.Conds[4].Place = 3 }, api.ErrNone, 1},
		{func(b *api.Branching) { b.Conds[4].From = 0 }, api.ErrNone, 1},
		{func(b *api.Branching) { b.Conds = b.Conds[:6] }, api.ErrNone, 3},
		{func(b *api.Branching) { b.Events[2].Post = nil }, api.ErrNone, 2},
		{func(b *api.Branching) { b.Conds = append(b.Conds, api.Cond{Place: 2, From: 3}) }, api.ErrSize, 4},
		{func(b *api.Branching) { b.Events = b.Events[:3] }, api.ErrSize, 3},
		{func(b *api.Branching) { b.Events, b.Conds = nil, b.Conds[:3] }, api.ErrSize, 0},
		{func(b *api.Branching) { b.Events, b.Conds = nil, b.Conds[:2] }, api.OK, 0},
	} {
		b := sampleProcess()
		c.change(&b)
		if f := Check(sample(), b); f != (api.Fault{Errno: c.errno, At: c.at}) {
			t.Errorf("case %d: %v, want %d at %d", i, f, c.errno, c.at)
		}
		if c.errno == api.OK {
			continue
		}
		if l := Possible(sample(), b); len(l) != 0 {
			t.Errorf("case %d: Possible %v", i, l)
		}
		if more, e := Add(sample(), b, 9, nil); e != c.errno || !equal(more, api.Branching{}) {
			t.Errorf("case %d: Add %d", i, e)
		}
	}
}

func TestFirstEvent(t *testing.T) {
	// The second transition needs what the first one consumes and produces; the last one needs what two events in conflict produce.
	n := made(4, [2][]int{{0}, {1, 2}}, [2][]int{{0, 1}, {}}, [2][]int{{0}, {3}}, [2][]int{{2, 3}, {}})
	n.Places[0].Init = 1
	b, _ := Initial(n)
	b, _ = Add(n, b, 0, []int{0})
	b, e := Add(n, b, 2, []int{0})
	if e != api.OK || len(b.Conds) != 4 || len(Possible(n, b)) != 0 {
		t.Fatal(b, e)
	}
	for _, event := range []api.Event{{Trans: 1, Pre: []int{0, 1}}, {Trans: 3, Pre: []int{2, 3}}} {
		if more, e := Add(n, b, event.Trans, event.Pre); e != api.ErrNone || !equal(more, api.Branching{}) {
			t.Error(event, more, e)
		}
		more := api.Branching{Conds: b.Conds, Events: append(slices.Clone(b.Events), event)}
		if f := Check(n, more); f != (api.Fault{Errno: api.ErrState, At: 2}) {
			t.Error(event, f)
		}
	}
}

func TestExample(t *testing.T) {
	n := api.Net{Name: "n", Places: []api.Place{{Name: "p", Init: 1}}, Trans: []api.Trans{{Name: "t", Pre: arcs(0)}, {Name: "u", Pre: arcs(0)}}}
	b, _ := Initial(n)
	if l := Possible(n, b); !slices.EqualFunc(l, [][]int{{0, 0}, {1, 0}}, slices.Equal[[]int]) {
		t.Error(l)
	}
	b, e := Add(n, b, 1, []int{0})
	if l := Possible(n, b); e != api.OK || !slices.EqualFunc(l, [][]int{{0, 0}}, slices.Equal[[]int]) {
		t.Error(l)
	}
	b, e = Add(n, b, 0, []int{0})
	if l := Possible(n, b); e != api.OK || len(l) != 0 || !Conflict(b, 0, 1) || !Conflict(b, 1, 0) || Conflict(b, 0, 0) {
		t.Error(l, b)
	}
}

func TestRelations(t *testing.T) {
	b := sampleProcess()
	for e, want := range [][]int{{0}, {1}, {0, 2}, {1, 3}} {
		if l := Causes(b, e); !slices.Equal(l, want) {
			t.Error("Causes", e, l)
		}
		for f := range b.Events {
			if Before(b, e, f) != (e == 0 && f == 2 || e == 1 && f == 3) {
				t.Error("Before", e, f)
			}
			// t and u are in conflict, and so is what follows them; both v consume the same condition, too.
			if Conflict(b, e, f) != ((e+f)%2 == 1) {
				t.Error("Conflict", e, f)
			}
		}
	}
	concurrent := [][2]int{{0, 1}, {1, 2}, {1, 3}, {1, 4}, {2, 3}, {3, 5}}
	for c := range b.Conds {
		for d := range b.Conds {
			want := slices.Contains(concurrent, [2]int{c, d}) || slices.Contains(concurrent, [2]int{d, c})
			if Concurrent(b, c, d) != want || Coset(b, []int{c, d}) != want {
				t.Error("Concurrent", c, d)
			}
		}
		if !Coset(b, []int{c}) {
			t.Error("Coset", c)
		}
	}
	if !Coset(b, nil) || !Coset(b, []int{3, 1, 2}) || Coset(b, []int{1, 2, 5}) || Coset(b, []int{3, 1, 3}) {
		t.Error("Coset")
	}
}

func TestIndicesThatDoNotExist(t *testing.T) {
	b := sampleProcess()
	for _, i := range []int{-1, -2, 7, math.MinInt, math.MaxInt} {
		if len(Causes(b, i)) != 0 || Before(b, i, 2) || Before(b, 0, i) || Conflict(b, i, 0) || Conflict(b, 0, i) {
			t.Error("an event that does not exist", i)
		}
		if Concurrent(b, i, 1) || Concurrent(b, 1, i) || Coset(b, []int{i}) || Coset(b, []int{0, 1, i}) {
			t.Error("a condition that does not exist", i)
		}
	}
	if Coset(api.Branching{}, []int{0}) || !Coset(api.Branching{}, nil) {
		t.Error("the empty process")
	}
}

func TestNotFounded(t *testing.T) {
	for i, change := range []func(b *api.Branching){
		func(b *api.Branching) { b.Conds[6].From = 4 },
		func(b *api.Branching) { b.Conds[6].From = -2 },
		func(b *api.Branching) { b.Events[3].Pre = []int{7} },
		func(b *api.Branching) { b.Events[3].Pre = []int{-1} },
		func(b *api.Branching) { b.Events[3].Pre = []int{6} },
		func(b *api.Branching) { b.Events[1].Pre = []int{5} },
		func(b *api.Branching) { b.Conds = nil },
	} {
		b := sampleProcess()
		change(&b)
		if len(Causes(b, 0)) != 0 || Before(b, 0, 2) || Conflict(b, 0, 1) || Concurrent(b, 0, 1) || Coset(b, nil) || Coset(b, []int{0}) {
			t.Errorf("case %d", i)
		}
	}
}

// relations are computed by the definitions.
type relations struct {
	b      api.Branching
	causes [][]int
}

func define(b api.Branching) relations {
	r := relations{b: b}
	for e, event := range b.Events {
		list := []int{e}
		for _, c := range event.Pre {
			if from := b.Conds[c].From; from >= 0 {
				list = append(list, r.causes[from]...)
			}
		}
		slices.Sort(list)
		r.causes = append(r.causes, slices.Compact(list))
	}
	return r
}

func (r relations) conflict(e, f int) bool {
	for _, x := range r.causes[e] {
		for _, y := range r.causes[f] {
			for _, c := range r.b.Events[x].Pre {
				if x != y && slices.Contains(r.b.Events[y].Pre, c) {
					return true
				}
			}
		}
	}
	return false
}

func (r relations) concurrent(c, d int) bool {
	e, f := r.b.Conds[c].From, r.b.Conds[d].From
	return c != d && !r.consumedBefore(c, f) && !r.consumedBefore(d, e) && (e < 0 || f < 0 || !r.conflict(e, f))
}

// consumedBefore reports whether a cause of e consumes c.
func (r relations) consumedBefore(c, e int) bool {
	return e >= 0 && slices.ContainsFunc(r.causes[e], func(x int) bool { return slices.Contains(r.b.Events[x].Pre, c) })
}

func (r relations) coset(l []int) bool {
	for i, c := range l {
		for _, d := range l[:i] {
			if !r.concurrent(c, d) {
				return false
			}
		}
	}
	return true
}

// checkRelations compares all relations with the definitions.
func checkRelations(t *testing.T, b api.Branching, random *rand.Rand) {
	t.Helper()
	r := define(b)
	for e := range b.Events {
		if !slices.Equal(Causes(b, e), r.causes[e]) {
			t.Fatal("Causes", b, e)
		}
		for f := range b.Events {
			if Before(b, e, f) != (e != f && slices.Contains(r.causes[f], e)) {
				t.Fatal("Before", b, e, f)
			}
			if Conflict(b, e, f) != r.conflict(e, f) {
				t.Fatal("Conflict", b, e, f)
			}
		}
	}
	for c := range b.Conds {
		for d := range b.Conds {
			if Concurrent(b, c, d) != r.concurrent(c, d) {
				t.Fatal("Concurrent", b, c, d)
			}
		}
	}
	for range 30 {
		var l []int
		for range random.Intn(5) {
			l = append(l, random.Intn(len(b.Conds)))
		}
		if Coset(b, l) != r.coset(l) {
			t.Fatal("Coset", b, l)
		}
	}
}

// Well-founded processes need not be branching processes: events may be in conflict with themselves, and conditions may occur twice.
func TestRelationsOfAnyProcess(t *testing.T) {
	r := rand.New(rand.NewSource(26))
	for range 400 {
		var b api.Branching
		events := r.Intn(7)
		for range 1 + r.Intn(8) {
			b.Conds = append(b.Conds, api.Cond{Place: r.Intn(9) - 4, From: -1})
		}
		for e := range events {
			for range r.Intn(3) {
				b.Conds = append(b.Conds, api.Cond{Place: r.Intn(9), From: e})
			}
		}
		r.Shuffle(len(b.Conds), func(i, k int) { b.Conds[i], b.Conds[k] = b.Conds[k], b.Conds[i] })
		for e := range events {
			event := api.Event{Trans: r.Intn(9) - 4, Post: []int{r.Intn(99)}}
			for range r.Intn(4) {
				if c := r.Intn(len(b.Conds)); b.Conds[c].From < e {
					event.Pre = append(event.Pre, c)
				}
			}
			b.Events = append(b.Events, event)
		}
		checkRelations(t, b, r)
	}
}

// allPairs searches all pairs that can be added.
func allPairs(n api.Net, b api.Branching) [][]int {
	r := define(b)
	var pairs [][]int
	for i := range n.Trans {
		inputs := net.Inputs(n, i)
		var choose func(pre []int, next int)
		choose = func(pre []int, next int) {
			var places []int
			for _, c := range pre {
				places = append(places, b.Conds[c].Place)
			}
			slices.Sort(places)
			known := slices.ContainsFunc(b.Events, func(e api.Event) bool { return e.Trans == i && slices.Equal(e.Pre, pre) })
			if slices.Equal(places, inputs) && r.coset(pre) && !known {
				pairs = append(pairs, append([]int{i}, pre...))
			}
			for c := next; c < len(b.Conds) && len(pre) < len(inputs); c++ {
				choose(append(slices.Clone(pre), c), c+1)
			}
		}
		choose(nil, 0)
	}
	slices.SortFunc(pairs, slices.Compare[[]int])
	return pairs
}

// ordinary returns a random net that admits processes.
func ordinary(seed uint64) api.Net {
	n := nettest.Random(seed, nettest.Shape{Places: 5, Trans: 5, Tokens: 1, Weight: 1})
	n.Trans = slices.DeleteFunc(n.Trans, func(t api.Trans) bool { return len(t.Pre) == 0 })
	return n
}

func TestProcessesOfRandomNets(t *testing.T) {
	r := rand.New(rand.NewSource(27))
	added := 0
	for seed := range uint64(250) {
		n := ordinary(seed)
		b, e := Initial(n)
		if e != api.OK {
			t.Fatal(n, e)
		}
		for range 7 {
			pairs := Possible(n, b)
			if !slices.EqualFunc(pairs, allPairs(n, b), slices.Equal[[]int]) {
				t.Fatal("Possible", n, b, pairs)
			}
			if len(pairs) == 0 || len(b.Conds) > 12 {
				break
			}
			pair := pairs[r.Intn(len(pairs))]
			more, e := Add(n, b, pair[0], pair[1:])
			if e != api.OK || Check(n, more) != (api.Fault{}) || len(more.Events) != len(b.Events)+1 {
				t.Fatal("Add", n, b, pair, e)
			}
			last := more.Events[len(b.Events)]
			if last.Trans != pair[0] || !slices.Equal(last.Pre, pair[1:]) || last.Cut {
				t.Fatal("Add", n, b, pair, more)
			}
			b = more
			added++
		}
		if len(b.Conds) > 0 {
			checkRelations(t, b, r)
			checkExclusive(t, b)
			checkMarked(t, b, r)
		}
	}
	if added < 300 {
		t.Error("too few events", added)
	}
}

// checkExclusive checks that of two different events at most one relation holds.
func checkExclusive(t *testing.T, b api.Branching) {
	t.Helper()
	for e := range b.Events {
		if Conflict(b, e, e) {
			t.Fatal("an event in conflict with itself", b, e)
		}
		for f := range e {
			holds := 0
			for _, relation := range []bool{Before(b, e, f), Before(b, f, e), Conflict(b, e, f)} {
				if relation {
					holds++
				}
			}
			if holds > 1 {
				t.Fatal("two relations", b, e, f)
			}
		}
	}
}

// checkMarked lets the causes of the conditions of co-sets occur, and looks whether all of them are marked at the end.
func checkMarked(t *testing.T, b api.Branching, r *rand.Rand) {
	t.Helper()
	for range 20 {
		var l []int
		for _, c := range r.Perm(len(b.Conds)) {
			if more := append(slices.Clone(l), c); Coset(b, more) {
				l = more
			}
		}
		marked := make([]bool, len(b.Conds))
		for c, cond := range b.Conds {
			marked[c] = cond.From < 0
		}
		var events []int
		for _, c := range l {
			events = append(events, Causes(b, b.Conds[c].From)...)
		}
		slices.Sort(events)
		for _, e := range slices.Compact(events) {
			for _, c := range b.Events[e].Pre {
				if !marked[c] {
					t.Fatal("a cause cannot occur", b, l, e)
				}
				marked[c] = false
			}
			for _, c := range b.Events[e].Post {
				marked[c] = true
			}
		}
		if slices.ContainsFunc(l, func(c int) bool { return !marked[c] }) {
			t.Fatal("a condition of a co-set is not marked", b, l)
		}
	}
}

func TestAddErrors(t *testing.T) {
	b := sampleProcess()
	for _, c := range []struct {
		t   int
		pre []int
	}{
		{-1, nil}, {3, []int{0}}, {math.MaxInt, nil}, {0, nil}, {0, []int{1}}, {0, []int{0}}, {2, []int{1, 2}}, {2, []int{2, 1}}, {2, []int{2, 5, 6}}, {2, []int{2, 5}}, {2, []int{4, 5}}, {2, []int{-1, 2}}, {2, []int{2, 99}},
	} {
		if more, e := Add(sample(), b, c.t, c.pre); e != api.ErrNone || !equal(more, api.Branching{}) {
			t.Error(c, more, e)
		}
	}
	if !equal(b, sampleProcess()) {
		t.Error("the argument was changed")
	}
}

func TestAddSharesNoMemory(t *testing.T) {
	n := sample()
	b, _ := Initial(n)
	b, _ = Add(n, b, 0, []int{0})
	pre := []int{1, 2}
	more, e := Add(n, b, 2, pre)
	if e != api.OK || !equal(more, api.Branching{Conds: []api.Cond{{Place: 0, From: -1}, {Place: 2, From: -1}, {Place: 1, From: 0}, {Place: 3, From: 0}, {Place: 2, From: 1}}, Events: []api.Event{{Trans: 0, Pre: []int{0}, Post: []int{2, 3}}, {Trans: 2, Pre: []int{1, 2}, Post: []int{4}}}}) {
		t.Fatal(more, e)
	}
	more.Conds[0].Place, more.Events[0].Pre[0], more.Events[0].Post[0], more.Events[1].Pre[0] = 9, 9, 9, 9
	if Check(n, b) != (api.Fault{}) || pre[0] != 1 {
		t.Error("the result shares memory with an argument")
	}
}

// chain is a process of a cycle of two places with k events.
func chain(k int) (api.Net, api.Branching) {
	n := api.Net{Name: "n", Places: []api.Place{{Name: "p", Init: 1}, {Name: "q"}}, Trans: []api.Trans{{Name: "t", Pre: arcs(0), Post: arcs(1)}, {Name: "u", Pre: arcs(1), Post: arcs(0)}}}
	b := api.Branching{Conds: []api.Cond{{Place: 0, From: -1}}}
	for e := range k {
		b.Events = append(b.Events, api.Event{Trans: e % 2, Pre: []int{e}, Post: []int{e + 1}})
		b.Conds = append(b.Conds, api.Cond{Place: (e + 1) % 2, From: e})
	}
	return n, b
}

func TestManyEvents(t *testing.T) {
	n, b := chain(api.MaxEvents)
	if f := Check(n, b); f != (api.Fault{}) {
		t.Fatal(f)
	}
	if l := Possible(n, b); !slices.EqualFunc(l, [][]int{{0, api.MaxEvents}}, slices.Equal[[]int]) {
		t.Error(l)
	}
	if more, e := Add(n, b, 0, []int{api.MaxEvents}); e != api.ErrSize || !equal(more, api.Branching{}) {
		t.Error(e)
	}
	if more, e := Add(n, b, 1, []int{api.MaxEvents}); e != api.ErrNone || !equal(more, api.Branching{}) {
		t.Error(e)
	}
	n, b = chain(api.MaxEvents - 1)
	if more, e := Add(n, b, 1, []int{api.MaxEvents - 1}); e != api.OK || len(more.Events) != api.MaxEvents {
		t.Error(e)
	}
	// The relations of processes have no limit.
	_, b = chain(1 << 20)
	if len(Causes(b, 1<<20-1)) != 1<<20 || !Before(b, 0, 1<<20-1) || Conflict(b, 0, 1<<20-1) || Concurrent(b, 0, 1<<20) {
		t.Error("a long chain")
	}
}
