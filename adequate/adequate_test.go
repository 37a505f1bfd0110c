package adequate

import (
	"cmp"
	"math"
	"math/rand"
	"slices"
	"testing"

	"petrinet/api"
	"petrinet/branching"
	"petrinet/config"
	"petrinet/nettest"
)

func equalLists(a, b [][]int) bool {
	return slices.EqualFunc(a, b, slices.Equal[[]int])
}

// chain returns a process of events with these transitions, one after the other.
func chain(transitions ...int) api.Branching {
	b := api.Branching{Conds: []api.Cond{{From: -1}}}
	for e, u := range transitions {
		b.Events = append(b.Events, api.Event{Trans: u, Pre: []int{e}, Post: []int{e + 1}})
		b.Conds = append(b.Conds, api.Cond{From: e})
	}
	return b
}

// apart returns a process of events with these transitions, each with an initial condition of its own.
func apart(transitions ...int) api.Branching {
	var b api.Branching
	for e, u := range transitions {
		b.Conds = append(b.Conds, api.Cond{From: -1})
		b.Events = append(b.Events, api.Event{Trans: u, Pre: []int{e}})
	}
	return b
}

// joined returns the process of several processes beside each other.
func joined(list ...api.Branching) api.Branching {
	var all api.Branching
	for _, b := range list {
		conds, events := len(all.Conds), len(all.Events)
		for _, c := range b.Conds {
			if c.From >= 0 {
				c.From += events
			}
			all.Conds = append(all.Conds, c)
		}
		for _, e := range b.Events {
			moved := api.Event{Trans: e.Trans}
			for _, c := range e.Pre {
				moved.Pre = append(moved.Pre, c+conds)
			}
			all.Events = append(all.Events, moved)
		}
	}
	return all
}

func TestExample(t *testing.T) {
	b := chain(3, 3)
	if f := Foata(b, []int{0, 1}); !equalLists(f, [][]int{{3}, {3}}) {
		t.Error(f)
	}
	if l := Levels(b, []int{0, 1}); !slices.Equal(l, []int{1, 2}) {
		t.Error(l)
	}
	if l := Parikh(b, []int{0, 1}); !slices.Equal(l, []int{3, 3}) {
		t.Error(l)
	}
}

func TestForms(t *testing.T) {
	// Events 0, 1: a chain; 2 alone; 3 follows 2 and 1; 4 without any Pre.
	b := joined(chain(7, 5), apart(9))
	b.Conds = append(b.Conds, api.Cond{From: 2})
	b.Events = append(b.Events, api.Event{Trans: 4, Pre: []int{2, 4}}, api.Event{Trans: -8})
	c := []int{0, 1, 2, 3, 4}
	if l := Parikh(b, c); !slices.Equal(l, []int{-8, 4, 5, 7, 9}) {
		t.Error(l)
	}
	if l := Levels(b, c); !slices.Equal(l, []int{1, 2, 1, 3, 1}) {
		t.Error(l)
	}
	if f := Foata(b, c); !equalLists(f, [][]int{{-8, 7, 9}, {5}, {4}}) {
		t.Error(f)
	}
	if l := Levels(b, []int{2, 4}); !slices.Equal(l, []int{1, 1}) {
		t.Error(l)
	}
	if len(Parikh(b, nil)) != 0 || len(Levels(b, nil)) != 0 || len(Foata(b, nil)) != 0 {
		t.Error("empty")
	}
}

func TestCompare(t *testing.T) {
	for i, c := range []struct {
		b             api.Branching
		x, y          []int
		size, compare int
	}{
		{chain(1, 2), nil, nil, 0, 0},
		{chain(1, 2), nil, []int{0}, -1, -1},
		{chain(9, 1), []int{0, 1}, []int{0}, 1, 1},
		// The size comes before the transitions.
		{joined(apart(9), apart(1, 1)), []int{0}, []int{1, 2}, -1, -1},
		{joined(apart(1, 9), apart(2, 3)), []int{0, 1}, []int{2, 3}, 0, -1},
		{joined(apart(9, 1), apart(2, 3)), []int{0, 1}, []int{2, 3}, 0, -1},
		{joined(apart(-1, 9), apart(-2, 30)), []int{0, 1}, []int{2, 3}, 0, 1},
		{apart(2, 2), []int{0}, []int{1}, 0, 0},
		{joined(chain(1, 2), apart(2, 1)), []int{0, 1}, []int{0, 1}, 0, 0},
		// The transitions come before the levels, and a shorter first level before a longer one.
		{joined(chain(1, 3), apart(1, 2)), []int{0, 1}, []int{2, 3}, 0, 1},
		{joined(chain(2, 1), apart(1, 2)), []int{0, 1}, []int{2, 3}, 0, -1},
		{joined(chain(9, 1), apart(1, 9)), []int{2, 3}, []int{0, 1}, 0, 1},
		// Levels of one length are compared by their transitions.
		{joined(chain(1, 2), chain(2, 1)), []int{0, 1}, []int{2, 3}, 0, -1},
		{joined(chain(1, 2, 3), chain(1, 3, 2)), []int{3, 4, 5}, []int{0, 1, 2}, 0, 1},
		{joined(chain(1, 2, 3), chain(1, 2, 3)), []int{0, 1, 2}, []int{3, 4, 5}, 0, 0},
		{joined(apart(0), apart(0)), []int{0}, []int{1}, 0, 0},
		{joined(chain(0, 1), chain(1, 0)), []int{2, 3}, []int{0, 1}, 0, 1},
		// Forms of more transitions than a short one holds.
		{joined(apart(1, 1, 1, 1, 1, 1, 1, 1, 1, 2), apart(1, 1, 1, 1, 1, 1, 1, 1, 1, 3)), []int{0, 1, 2, 3, 4, 5, 6, 7, 8, 9}, []int{10, 11, 12, 13, 14, 15, 16, 17, 18, 19}, 0, -1},
		{joined(apart(1, 1, 1, 1, 1, 1, 1, 2), apart(1, 1, 1, 1, 1, 1, 1, 0)), []int{0, 1, 2, 3, 4, 5, 6, 7}, []int{8, 9, 10, 11, 12, 13, 14, 15}, 0, 1},
		{joined(apart(1, 1, 1, 1, 1, 1, 1, 1, 2), apart(1, 1, 1, 1, 1, 1, 1, 1, 2)), []int{0, 1, 2, 3, 4, 5, 6, 7, 8}, []int{9, 10, 11, 12, 13, 14, 15, 16, 17}, 0, 0},
	} {
		if s := Size(c.b, c.x, c.y); s != c.size {
			t.Error(i, s)
		}
		if s := Compare(c.b, c.x, c.y); s != c.compare {
			t.Error(i, s)
		}
		if Size(c.b, c.y, c.x) != -c.size || Compare(c.b, c.y, c.x) != -c.compare {
			t.Error(i, "reversed")
		}
	}
}

func TestNoConfiguration(t *testing.T) {
	b := chain(1, 2, 3)
	// Event 3 is in conflict with event 1.
	b.Events = append(b.Events, api.Event{Trans: 4, Pre: []int{1}})
	broken := chain(1, 2)
	broken.Events[0].Pre = []int{1}
	for i, c := range []struct {
		b api.Branching
		c []int
	}{
		{b, []int{1}}, {b, []int{0, 2}}, {b, []int{1, 0}}, {b, []int{0, 0}}, {b, []int{0, 1, 3}}, {b, []int{-1}}, {b, []int{4}},
		{b, []int{math.MaxInt}}, {b, []int{math.MinInt}}, {api.Branching{}, []int{0}}, {broken, nil}, {broken, []int{0}},
	} {
		if len(Parikh(c.b, c.c)) > 0 || len(Levels(c.b, c.c)) > 0 || len(Foata(c.b, c.c)) > 0 {
			t.Error(i)
		}
		other := []int{0, 1, 2}
		if Size(c.b, c.c, other) != 0 || Size(c.b, other, c.c) != 0 || Compare(c.b, c.c, other) != 0 || Compare(c.b, other, c.c) != 0 || Size(c.b, c.c, nil) != 0 || Compare(c.b, nil, c.c) != 0 {
			t.Error(i)
		}
	}
}

// level returns the level of an event by the definition.
func level(b api.Branching, e int) int {
	l := 1
	for _, cause := range branching.Causes(b, e) {
		if cause != e {
			l = max(l, level(b, cause)+1)
		}
	}
	return l
}

// atLevel returns the transitions of the events of that level in ascending order; of all events for level 0.
func atLevel(b api.Branching, c []int, l int) []int {
	var list []int
	for _, e := range c {
		if l == 0 || level(b, e) == l {
			list = append(list, b.Events[e].Trans)
		}
	}
	slices.Sort(list)
	return list
}

func compareByDefinition(b api.Branching, x, y []int) int {
	if len(x) != len(y) {
		return cmp.Compare(len(x), len(y))
	}
	if order := slices.Compare(atLevel(b, x, 0), atLevel(b, y, 0)); order != 0 {
		return order
	}
	for l := range len(x) {
		f, g := atLevel(b, x, l+1), atLevel(b, y, l+1)
		if order := cmp.Or(cmp.Compare(len(f), len(g)), slices.Compare(f, g)); order != 0 {
			return order
		}
	}
	return 0
}

// check compares the functions with the definitions for all configurations, and returns these.
func check(t *testing.T, b api.Branching) [][]int {
	t.Helper()
	all, _ := config.All(b, 60)
	for _, c := range all {
		var levels []int
		var form [][]int
		for _, e := range c {
			levels = append(levels, level(b, e))
		}
		for l := 1; len(atLevel(b, c, l)) > 0; l++ {
			form = append(form, atLevel(b, c, l))
		}
		if l := Levels(b, c); !slices.Equal(l, levels) {
			t.Fatal(b, c, l)
		}
		if f := Foata(b, c); !equalLists(f, form) {
			t.Fatal(b, c, f)
		}
		if p := Parikh(b, c); !slices.Equal(p, atLevel(b, c, 0)) {
			t.Fatal(b, c, p)
		}
		for _, d := range all {
			if s := Compare(b, c, d); s != compareByDefinition(b, c, d) {
				t.Fatal(b, c, d, s)
			}
			if s := Size(b, c, d); s != cmp.Compare(len(c), len(d)) {
				t.Fatal(b, c, d, s)
			}
		}
	}
	return all
}

func TestOtherProcesses(t *testing.T) {
	r := rand.New(rand.NewSource(28))
	large := 0
	for range 400 {
		var b api.Branching
		for range 1 + r.Intn(6) {
			b.Conds = append(b.Conds, api.Cond{Place: r.Intn(9) - 4, From: -1})
		}
		events := r.Intn(8)
		for e := range events {
			for range r.Intn(3) {
				b.Conds = append(b.Conds, api.Cond{Place: r.Intn(9), From: e})
			}
		}
		r.Shuffle(len(b.Conds), func(i, k int) { b.Conds[i], b.Conds[k] = b.Conds[k], b.Conds[i] })
		for e := range events {
			event := api.Event{Trans: r.Intn(3) - 1, Post: []int{r.Intn(99)}}
			for range r.Intn(4) {
				if c := r.Intn(len(b.Conds)); b.Conds[c].From < e {
					event.Pre = append(event.Pre, c)
				}
			}
			b.Events = append(b.Events, event)
		}
		if len(check(t, b)) > 12 {
			large++
		}
	}
	if large < 50 {
		t.Error("too few cases", large)
	}
}

// grown returns a process of a net, with events that are chosen by chance.
func grown(r *rand.Rand, n api.Net) api.Branching {
	b, _ := branching.Initial(n)
	for len(b.Events) < 9 && len(b.Conds) < 30 {
		pairs := branching.Possible(n, b)
		if len(pairs) == 0 {
			break
		}
		pair := pairs[r.Intn(len(pairs))]
		b, _ = branching.Add(n, b, pair[0], pair[1:])
	}
	return b
}

// isSafe reports whether all reachable markings, which are few, have at most one token on each place.
func isSafe(n api.Net) bool {
	markings, all := nettest.Reachable(n, 300)
	return all && !slices.ContainsFunc(markings, func(m []int) bool { return slices.Max(m) > 1 })
}

// TestSafeNets checks P28.3.
func TestSafeNets(t *testing.T) {
	r := rand.New(rand.NewSource(283))
	large, extended := 0, 0
	for seed := range uint64(6000) {
		n := nettest.Random(seed, nettest.Shape{Places: 7, Trans: 7, Tokens: 1, Weight: 1})
		n.Trans = slices.DeleteFunc(n.Trans, func(t api.Trans) bool { return len(t.Pre) == 0 })
		if !isSafe(n) {
			continue
		}
		b := grown(r, n)
		all := check(t, b)
		if len(all) > 8 {
			large++
		}
		for _, x := range all {
			for _, y := range all {
				order := Compare(b, x, y)
				if order == 0 && !slices.Equal(x, y) {
					t.Fatal("equal", n, b, x, y)
				}
				if order >= 0 && len(x) < len(y) {
					t.Fatal("inclusion", n, b, x, y)
				}
				if order < 0 {
					extended += extend(t, n, b, x, y)
				}
			}
		}
	}
	if large < 100 || extended < 200 {
		t.Error("too few cases", large, extended)
	}
}

// extend checks that x remains less than y with an extension of the same transition, and returns how many there are.
func extend(t *testing.T, n api.Net, b api.Branching, x, y []int) int {
	t.Helper()
	m, _ := config.Marking(n, b, x)
	k, _ := config.Marking(n, b, y)
	if !slices.Equal(m, k) {
		return 0
	}
	added := func(c []int, e int) []int {
		return slices.Sorted(slices.Values(append(slices.Clone(c), e)))
	}
	count := 0
	first, _ := config.Extensions(b, x)
	second, _ := config.Extensions(b, y)
	for _, e := range first {
		for _, f := range second {
			if b.Events[e].Trans != b.Events[f].Trans {
				continue
			}
			count++
			if Compare(b, added(x, e), added(y, f)) != -1 {
				t.Fatal(n, b, x, y, e, f)
			}
		}
	}
	return count
}

// TestPreorder checks on other processes that Compare is transitive, and refines strict inclusion.
func TestPreorder(t *testing.T) {
	b := joined(chain(1, 2), chain(1, 1), apart(2, 2, 1))
	all, _ := config.All(b, 1000)
	for _, x := range all {
		for _, y := range all {
			if len(x) < len(y) && !slices.ContainsFunc(x, func(e int) bool { return !slices.Contains(y, e) }) && Compare(b, x, y) != -1 {
				t.Fatal(x, y)
			}
			for _, z := range all {
				if Compare(b, x, y) <= 0 && Compare(b, y, z) <= 0 && Compare(b, x, z) > 0 {
					t.Fatal(x, y, z)
				}
			}
		}
	}
}

func TestSharesNoMemory(t *testing.T) {
	b, c := chain(5, 4, 3), []int{0, 1, 2}
	Parikh(b, c)[0] = 9
	Levels(b, c)[0] = 9
	f := Foata(b, c)
	_ = append(f[0], 9)
	f[1][0] = 9
	if !slices.Equal(c, []int{0, 1, 2}) || b.Events[0].Trans != 5 || b.Events[1].Trans != 4 || f[2][0] != 3 {
		t.Error(b, c, f)
	}
}

func TestLarge(t *testing.T) {
	transitions := make([]int, api.MaxEvents)
	b := chain(transitions...)
	c := make([]int, api.MaxEvents)
	for e := range c {
		c[e] = e
	}
	if l := Levels(b, c); l[api.MaxEvents-1] != api.MaxEvents || len(Foata(b, c)) != api.MaxEvents {
		t.Error(l)
	}
}
