package discover

import (
	"math/rand"
	"slices"
	"strconv"
	"strings"
	"testing"

	"petrinet/api"
	"petrinet/eventlog"
	"petrinet/firing"
	"petrinet/net"
)

// parsed returns the log of a text.
func parsed(text string) [][]string {
	l, f := eventlog.Parse(text)
	if f != (api.Fault{}) {
		panic(f)
	}
	return l
}

func same(a, b [][]int) bool {
	return slices.EqualFunc(a, b, slices.Equal[[]int])
}

// letters returns a trace of k different activities.
func letters(k int) []string {
	var list []string
	for i := range k {
		list = append(list, string(rune('a'+i)))
	}
	return list
}

func TestFootprint(t *testing.T) {
	l := parsed("a b c\na c b\nd d\n-\n")
	want := [][]int{
		{api.Apart, api.Causes, api.Causes, api.Apart},
		{api.Caused, api.Apart, api.Around, api.Apart},
		{api.Caused, api.Around, api.Apart, api.Apart},
		{api.Apart, api.Apart, api.Apart, api.Around},
	}
	if m, e := Footprint(l); !same(m, want) || e != api.OK {
		t.Error(m, e)
	}
	if m, e := Footprint([][]string{letters(12)}); len(m) != 12 || e != api.OK {
		t.Error(m, e)
	}
}

func TestErrors(t *testing.T) {
	for i, c := range []struct {
		l [][]string
		e api.Errno
	}{
		{nil, api.ErrEmpty},
		{[][]string{nil, {}}, api.ErrEmpty},
		{[][]string{{"A"}}, api.ErrName},
		{[][]string{letters(13), {"?"}}, api.ErrName},
		{make([][]string, 65), api.ErrSize},
		{[][]string{slices.Repeat([]string{"a"}, 65)}, api.ErrSize},
		{[][]string{letters(13)}, api.ErrSize},
		{[][]string{letters(7), letters(13)[6:]}, api.ErrSize},
	} {
		m, e := Footprint(c.l)
		pairs, f := Pairs(c.l)
		n, g := Alpha(c.l)
		if e != c.e || f != c.e || g != c.e || len(m) != 0 || len(pairs) != 0 || n.Name != "" || len(n.Places) != 0 || len(n.Trans) != 0 {
			t.Errorf("case %d: %d %d %d", i, e, f, g)
		}
		if Same(c.l, c.l) || Same(c.l, [][]string{{"a"}}) || Same([][]string{{"a"}}, c.l) {
			t.Errorf("case %d: Same", i)
		}
	}
}

func TestSame(t *testing.T) {
	a := parsed("a b c\na b")
	for text, want := range map[string]bool{
		"a b c":             true,
		"b c\na b\nb c\n\n": true,
		"a b":               false,
		"a b d":             false,
		"a b c\nb a":        false,
		"c b a":             false,
		"a b\nc":            false,
		"a b c\nb c a":      false,
	} {
		if Same(a, parsed(text)) != want || Same(parsed(text), a) != want {
			t.Errorf("%q", text)
		}
	}
}

func TestPairs(t *testing.T) {
	for text, want := range map[string][][2]uint64{
		"a b c":                   {{1, 2}, {2, 4}},
		"a":                       nil,
		"a a":                     nil,
		"a b\nb a":                nil,
		"a b d\na c d":            {{1, 6}, {6, 8}},
		"a b c d\na c b d":        {{1, 2}, {1, 4}, {2, 8}, {4, 8}},
		"a b b c":                 nil,
		"a b\na c\nb c":           {{1, 2}, {1, 4}, {2, 4}},
		"a c\nb c\na d\nb d":      {{3, 12}},
		"a c\nb c\na d\na b":      {{1, 2 | 8}, {1, 4 | 8}, {2, 4}},
		"a b c d\na c b d\na e d": {{1, 2 | 16}, {1, 4 | 16}, {2 | 16, 8}, {4 | 16, 8}},
	} {
		if l, e := Pairs(parsed(text)); !slices.Equal(l, want) || e != api.OK {
			t.Errorf("%q: %v %d, want %v", text, l, e, want)
		}
	}
}

// allPairs returns the maximal pairs by the definitions.
func allPairs(l [][]string) [][2]uint64 {
	activities := eventlog.Activities(l)
	relation := func(i, k int) int { return eventlog.Relation(l, activities[i], activities[k]) }
	all := func(a, b uint64, wanted int) bool {
		for i := range activities {
			for k := range activities {
				if a>>i&1 == 1 && b>>k&1 == 1 && relation(i, k) != wanted {
					return false
				}
			}
		}
		return true
	}
	var causal, maximal [][2]uint64
	for a := uint64(1); a < 1<<len(activities); a++ {
		for b := uint64(1); b < 1<<len(activities); b++ {
			if all(a, b, api.Causes) && all(a, a, api.Apart) && all(b, b, api.Apart) {
				causal = append(causal, [2]uint64{a, b})
			}
		}
	}
	for _, x := range causal {
		if !slices.ContainsFunc(causal, func(y [2]uint64) bool { return y != x && x[0]&^y[0] == 0 && x[1]&^y[1] == 0 }) {
			maximal = append(maximal, x)
		}
	}
	return maximal
}

// random returns a log of up to k activities.
func random(r *rand.Rand, k int) [][]string {
	names := letters(k)
	var l [][]string
	for range 1 + r.Intn(6) {
		var trace []string
		for range r.Intn(5) {
			trace = append(trace, names[r.Intn(k)])
		}
		l = append(l, trace)
	}
	return l
}

func TestRandomLogs(t *testing.T) {
	r := rand.New(rand.NewSource(49))
	found := 0
	for range 400 {
		l := random(r, 1+r.Intn(6))
		if len(eventlog.Activities(l)) == 0 {
			continue
		}
		want := allPairs(l)
		pairs, e := Pairs(l)
		if !slices.Equal(pairs, want) || e != api.OK {
			t.Fatal(l, pairs, want)
		}
		found += len(pairs)
		checkAlpha(t, l, pairs)
	}
	if found < 200 {
		t.Error("too few pairs", found)
	}
}

// checkAlpha compares the net with the pairs.
func checkAlpha(t *testing.T, l [][]string, pairs [][2]uint64) {
	t.Helper()
	n, e := Alpha(l)
	if e != api.OK || net.Check(n) != (api.Fault{}) || n.Name != "alpha" || len(n.Places) != 2+len(pairs) {
		t.Fatal(l, n, e)
	}
	activities := eventlog.Activities(l)
	for p, place := range n.Places {
		name, init := []string{"_in", "_out"}[min(p, 1)], 0
		if p == 0 {
			init = 1
		}
		if p > 1 {
			name = "_p" + strconv.Itoa(p-2)
		}
		if place != (api.Place{Name: name, Init: init}) {
			t.Fatal("place", l, n)
		}
		for i, a := range activities {
			consumed, produced := p == 0 && slices.Contains(eventlog.First(l), a), p == 1 && slices.Contains(eventlog.Last(l), a)
			if p > 1 {
				consumed, produced = pairs[p-2][1]>>i&1 == 1, pairs[p-2][0]>>i&1 == 1
			}
			if n.Trans[i].Name != a || net.Pre(n, i, p) > 1 || net.Post(n, i, p) > 1 || (net.Pre(n, i, p) == 1) != consumed || (net.Post(n, i, p) == 1) != produced {
				t.Fatal("arcs", l, n, p, a)
			}
		}
	}
	if len(n.Trans) != len(activities) || !net.Plain(n) {
		t.Fatal("transitions", l, n)
	}
}

func TestAlpha(t *testing.T) {
	arc := func(p int) []api.Arc { return []api.Arc{{Place: p, W: 1}} }
	n, e := Alpha(parsed("a b c\n"))
	want := api.Net{
		Name:   "alpha",
		Places: []api.Place{{Name: "_in", Init: 1}, {Name: "_out"}, {Name: "_p0"}, {Name: "_p1"}},
		Trans:  []api.Trans{{Name: "a", Pre: arc(0), Post: arc(2)}, {Name: "b", Pre: arc(2), Post: arc(3)}, {Name: "c", Pre: arc(3), Post: arc(1)}},
	}
	if e != api.OK || !net.Same(n, want) {
		t.Error(n, e)
	}
}

func TestAlphaErrors(t *testing.T) {
	for text, want := range map[string]api.Errno{
		"_in a":         api.ErrTwice,
		"a _out":        api.ErrTwice,
		"a _p0":         api.ErrTwice,
		"a _p1":         api.OK,
		"a b _p1":       api.ErrTwice,
		"a b _p2 _p02":  api.ErrTwice,
		"_in _out _in2": api.ErrTwice,
		"alpha":         api.OK,
		"_p0":           api.OK,
	} {
		if n, e := Alpha(parsed(text)); e != want || e != api.OK && n.Name != "" {
			t.Errorf("%q: %v %d, want %d", text, n, e, want)
		}
	}
	for _, c := range []struct {
		edges int
		first string
		e     api.Errno
	}{{22, "a", api.OK}, {22, "_in", api.ErrTwice}, {23, "a", api.ErrSize}, {23, "_in", api.ErrSize}} {
		l := tangled(c.edges, c.first)
		if pairs, e := Pairs(l); len(pairs) != c.edges || e != api.OK {
			t.Fatal(c, len(pairs), e)
		}
		if n, e := Alpha(l); e != c.e || e != api.OK && n.Name != "" {
			t.Error(c, n, e)
		}
	}
}

// tangled returns a log of eight activities with that many maximal pairs: none of them can be joined, as any two activities follow each other.
func tangled(edges int, first string) [][]string {
	names := append([]string{first}, letters(8)[1:]...)
	var l [][]string
	for i, a := range names {
		for _, b := range names[:i] {
			l = append(l, []string{a, b})
			if len(l) > edges {
				l[len(l)-1] = []string{a, b, a}
			}
		}
	}
	return l
}

func TestAlphaDependsOnlyOnTheFootprint(t *testing.T) {
	r := rand.New(rand.NewSource(50))
	for range 200 {
		l := random(r, 4)
		if len(eventlog.Activities(l)) == 0 {
			continue
		}
		// The same traces in another order, some of them twice, and an empty one.
		other := slices.Concat(l, l[:1], [][]string{nil})
		r.Shuffle(len(other), func(i, k int) { other[i], other[k] = other[k], other[i] })
		n, _ := Alpha(l)
		m, e := Alpha(other)
		if e != api.OK || !net.Same(n, m) || !Same(l, other) {
			t.Fatal(l, n, m)
		}
	}
}

func TestChains(t *testing.T) {
	for k := 1; k <= 12; k++ {
		trace := letters(k)
		slices.Reverse(trace[k/2:])
		n, e := Alpha([][]string{trace, trace})
		if e != api.OK {
			t.Fatal(trace, e)
		}
		m := net.Initial(n)
		for _, activity := range trace {
			list := firing.List(n, m)
			if len(list) != 1 || n.Trans[list[0]].Name != activity {
				t.Fatal(trace, m, list)
			}
			m, _ = firing.Fire(n, m, list[0])
		}
		want := make([]int, len(n.Places))
		want[1] = 1
		if !slices.Equal(m, want) || !firing.Dead(n, m) {
			t.Error(strings.Join(trace, " "), m)
		}
	}
}
