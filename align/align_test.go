package align

import (
	"math"
	"math/rand"
	"slices"
	"strconv"
	"strings"
	"testing"

	"petrinet/api"
	"petrinet/explore"
	"petrinet/firing"
	"petrinet/net"
	"petrinet/nettest"
)

type ends = [2][]int

var arcs = nettest.Arcs

// line has p, q and t from p to q.
func line() api.Net {
	return named(nettest.Ordinary(2, ends{{0}, {1}}), "t")
}

// named returns a net with one token on its first place and the given names of transitions.
func named(n api.Net, names ...string) api.Net {
	n.Places[0].Init = 1
	for i, name := range names {
		n.Trans[i].Name = name
	}
	return n
}

// abc does a, b and c.
func abc() api.Net {
	return named(nettest.Ordinary(4, ends{{0}, {1}}, ends{{1}, {2}}, ends{{2}, {3}}), "a", "b", "c")
}

// skipping does a, then b or nothing, then c.
func skipping() api.Net {
	return named(nettest.Ordinary(4, ends{{0}, {1}}, ends{{1}, {2}}, ends{{2}, {3}}, ends{{1}, {2}}), "a", "b", "c", "_")
}

func words(s string) []string {
	return strings.Fields(s)
}

func moves(numbers ...int) []api.Move {
	var list []api.Move
	for i := 0; i+1 < len(numbers); i += 2 {
		list = append(list, api.Move{Kind: numbers[i], Trans: numbers[i+1]})
	}
	return list
}

func TestBest(t *testing.T) {
	end := []int{0, 0, 0, 1}
	// The way by t0 and t1 costs as much as that by the others and has fewer moves, but its costs come first.
	ways := named(nettest.Ordinary(5, ends{{0}, {1}}, ends{{1}, {4}}, ends{{0}, {2}}, ends{{2}, {3}}, ends{{3}, {4}}), "a", "_a", "_b", "_c", "b")
	for i, c := range []struct {
		n     api.Net
		final []int
		trace string
		cost  Cost
		total int
		want  []api.Move // nil if there are several with the fewest moves
		moves int
	}{
		{line(), []int{0, 1}, "t", Cost{3, 5}, 0, moves(api.Both, 0), 1},
		{line(), []int{0, 1}, "t t", Cost{3, 5}, 3, nil, 2},
		{line(), []int{0, 1}, "", Cost{3, 5}, 5, moves(api.InNet, 0), 1},
		{line(), []int{0, 1}, "x", Cost{3, 5}, 8, nil, 2},
		{line(), []int{1, 0}, "t", Cost{3, 5}, 3, moves(api.InLog, -1), 1},
		{line(), []int{1, 0}, "", Cost{3, 5}, 0, nil, 0},
		{abc(), end, "a c", Cost{1, 1}, 1, moves(api.Both, 0, api.InNet, 1, api.Both, 2), 3},
		{abc(), end, "a b c", Cost{1, 1}, 0, moves(api.Both, 0, api.Both, 1, api.Both, 2), 3},
		{abc(), end, "a b x c", Cost{1, 1}, 1, moves(api.Both, 0, api.Both, 1, api.InLog, -1, api.Both, 2), 4},
		{abc(), end, "c b a", Cost{1, 1}, 4, nil, 5},
		{abc(), end, "c b a", Cost{10, 1}, 22, nil, 5},
		{skipping(), end, "a c", Cost{1, 1}, 0, moves(api.Both, 0, api.Silent, 3, api.Both, 2), 3},
		{skipping(), end, "a b c", Cost{1, 1}, 0, moves(api.Both, 0, api.Both, 1, api.Both, 2), 3},
		{skipping(), end, "", Cost{1, 7}, 14, moves(api.InNet, 0, api.Silent, 3, api.InNet, 2), 3},
		// An activity with the name of a silent transition is none of its moves.
		{skipping(), end, "a _ c", Cost{1, 1}, 1, nil, 4},
		{abc(), end, "A é", Cost{1000, 1000}, 5000, nil, 5},
		{ways, []int{0, 0, 0, 0, 1}, "", Cost{1, 1}, 1, moves(api.InNet, 0, api.Silent, 1), 2},
	} {
		l, total, e := Best(c.n, c.final, words(c.trace), c.cost, 100)
		if e != api.OK || total != c.total || len(l) != c.moves || c.want != nil && !slices.Equal(l, c.want) {
			t.Errorf("case %d: %v %d %v", i, l, total, e)
		}
		if !Check(c.n, c.final, words(c.trace), l) || Total(c.cost, l) != total {
			t.Errorf("case %d: %v %d", i, l, Total(c.cost, l))
		}
	}
}

func TestErrors(t *testing.T) {
	source := named(nettest.Ordinary(2, ends{nil, {0}}), "t")
	full := line()
	full.Places[0].Init = api.MaxTokens
	full.Trans = append(full.Trans, api.Trans{Name: "u", Post: arcs(0, 1)})
	end := []int{0, 1}
	long := slices.Repeat([]string{"t"}, api.MaxTrace)
	one := Cost{1, 1}
	for i, c := range []struct {
		n     api.Net
		final []int
		t     []string
		cost  Cost
		limit int
		e     api.Errno
	}{
		{api.Net{}, nil, nil, Cost{}, 0, api.ErrName},
		{line(), nil, nil, Cost{}, 0, api.ErrSize},
		{line(), []int{0, 1, 0}, nil, Cost{}, 0, api.ErrSize},
		{line(), []int{0, -1}, nil, Cost{}, 0, api.ErrSize},
		{line(), []int{0, api.MaxTokens + 1}, nil, one, 9, api.ErrSize},
		{line(), end, append(long, "t"), Cost{}, 0, api.ErrSize},
		{line(), end, long, one, 9, api.OK},
		{line(), end, []string{"", "Not a name"}, one, 9, api.OK},
		{line(), end, nil, Cost{0, 1}, 9, api.ErrRange},
		{line(), end, nil, Cost{1, 0}, 9, api.ErrRange},
		{line(), end, nil, Cost{1001, 1}, 9, api.ErrRange},
		{line(), end, nil, Cost{1, 1001}, 9, api.ErrRange},
		{line(), end, nil, Cost{-1, math.MinInt}, 9, api.ErrRange},
		{line(), end, nil, Cost{1000, 1000}, 9, api.OK},
		{line(), end, nil, one, 0, api.ErrRange},
		{full, end, nil, one, -1, api.ErrRange},
		{full, end, nil, one, api.MaxStates + 1, api.ErrRange},
		{line(), end, nil, one, math.MaxInt, api.ErrRange},
		{line(), end, nil, one, api.MaxStates, api.OK},
		{full, end, nil, one, 1, api.ErrOver},
		{source, end, nil, one, 9, api.ErrLimit},
		{line(), end, nil, one, 1, api.ErrLimit},
		{line(), end, nil, one, 2, api.OK},
		{line(), []int{1, 1}, nil, one, 9, api.ErrNone},
		{line(), []int{1, 1}, nil, one, 1, api.ErrLimit},
	} {
		l, total, e := Best(c.n, c.final, c.t, c.cost, c.limit)
		if e != c.e || e != api.OK && (len(l) != 0 || total != 0) {
			t.Errorf("case %d: Best %v %d %v, want %v", i, l, total, e, c.e)
		}
		if len(c.t) > 0 {
			continue
		}
		seq, total, e := Shortest(c.n, c.final, c.cost, c.limit)
		if e != c.e || e != api.OK && (len(seq) != 0 || total != 0) {
			t.Errorf("case %d: Shortest %v %d %v, want %v", i, seq, total, e, c.e)
		}
		if c.cost != one {
			continue
		}
		if x, e := Fitness(c.n, c.final, nil, c.limit); e != c.e || e != api.OK && x != (api.Rat{}) {
			t.Errorf("case %d: Fitness %v %v, want %v", i, x, e, c.e)
		}
	}
}

func TestCheck(t *testing.T) {
	const both, inLog, inNet, silent = api.Both, api.InLog, api.InNet, api.Silent
	end := []int{0, 0, 0, 1}
	faulty := abc()
	faulty.Name = ""
	full := line()
	full.Places[1].Init = api.MaxTokens
	for i, c := range []struct {
		n     api.Net
		final []int
		trace string
		l     []api.Move
		want  bool
	}{
		{abc(), end, "a c", moves(both, 0, inNet, 1, both, 2), true},
		{abc(), end, "a c", moves(both, 0, inNet, 1, inLog, -1, inNet, 2), true},
		{abc(), end, "c", moves(inNet, 0, inLog, -1, inNet, 1, inNet, 2), true},
		{abc(), []int{1, 0, 0, 0}, "", nil, true},
		{skipping(), end, "a c", moves(both, 0, silent, 3, both, 2), true},
		{skipping(), end, "_", moves(inNet, 0, inLog, -1, silent, 3, inNet, 2), true},
		{api.Net{}, nil, "", nil, false},
		{faulty, end, "a c", moves(both, 0, inNet, 1, both, 2), false},
		{abc(), end[:3], "a c", moves(both, 0, inNet, 1, both, 2), false},
		{abc(), []int{0, 0, 0, -1}, "", nil, false},
		{abc(), end, "", nil, false},
		{abc(), []int{1, 0, 0, 0}, "a", nil, false},
		{abc(), end, "a c", moves(both, 0, both, 1, both, 2), false},
		{abc(), end, "a c", moves(both, 0, inNet, 1, inNet, 2), false},
		{abc(), end, "a c", moves(both, 0, inNet, 1, both, 2, inLog, -1), false},
		{abc(), end, "a", moves(both, 0, inNet, 1, both, 2), false},
		{abc(), end, "a c", moves(both, 0, both, 2), false},
		{abc(), end, "a c", moves(both, 0, inNet, 1), false},
		{abc(), end, "a c", moves(inNet, 0, inLog, 0, inNet, 1, both, 2), false},
		{abc(), end, "a c", moves(inNet, 0, inLog, -2, inNet, 1, both, 2), false},
		{abc(), end, "a c", moves(both, 0, silent, 1, both, 2), false},
		{abc(), end, "a c", moves(both, 0, 0, 1, both, 2), false},
		{abc(), end, "a c", moves(both, 0, 5, 1, both, 2), false},
		{abc(), end, "a c", moves(both, 0, inNet, 3, both, 2), false},
		{abc(), end, "a c", moves(both, -1, inNet, 1, both, 2), false},
		{abc(), end, "a c", moves(both, math.MinInt, inNet, math.MaxInt), false},
		{abc(), end, "a c", moves(inNet, 1, both, 0, both, 2), false},
		{skipping(), end, "a c", moves(both, 0, inNet, 3, both, 2), false},
		{skipping(), end, "a _ c", moves(both, 0, both, 3, both, 2), false},
		{full, []int{0, api.MaxTokens}, "t", moves(both, 0), false},
	} {
		if is := Check(c.n, c.final, words(c.trace), c.l); is != c.want {
			t.Errorf("case %d: %v", i, is)
		}
	}
	// Neither the trace nor the list of moves is limited.
	long := slices.Repeat([]string{"x"}, 20000)
	if !Check(line(), []int{1, 0}, long, slices.Repeat(moves(inLog, -1), 20000)) {
		t.Error("a long trace")
	}
}

func TestTotal(t *testing.T) {
	l := moves(api.Both, 7, api.InLog, 0, api.InNet, -5, api.Silent, 9, api.InNet, 0)
	for i, c := range []struct {
		cost Cost
		l    []api.Move
		want int
	}{
		{Cost{3, 10}, l, 23},
		{Cost{0, 0}, l, 0},
		{Cost{1000, 1000}, l, 3000},
		{Cost{1001, 1}, nil, -1},
		{Cost{1, 1001}, nil, -1},
		{Cost{-1, 1}, nil, -1},
		{Cost{1, -1}, nil, -1},
		{Cost{math.MaxInt, math.MaxInt}, l, -1},
		{Cost{1, 1}, nil, 0},
		{Cost{1, 1}, append(slices.Clone(l), api.Move{}), -1},
		{Cost{1, 1}, append(slices.Clone(l), api.Move{Kind: 5}), -1},
		{Cost{1, 1}, append(slices.Clone(l), api.Move{Kind: -1}), -1},
		{Cost{1000, 0}, slices.Repeat(moves(api.InLog, -1), 10000), 10000000},
		{Cost{1000, 0}, slices.Repeat(moves(api.InLog, -1), 10001), -1},
	} {
		if x := Total(c.cost, c.l); x != c.want {
			t.Errorf("case %d: %d", i, x)
		}
	}
}

func TestShortest(t *testing.T) {
	// Two ways: one visible transition, or two silent ones and a visible one; a loop does not matter.
	n := named(nettest.Ordinary(3, ends{{0}, {2}}, ends{{0}, {1}}, ends{{1}, {2}}, ends{{0}, {0}}), "a", "_b", "_c", "_d")
	for i, c := range []struct {
		n     api.Net
		final []int
		cost  Cost
		seq   []int
		total int
	}{
		{n, []int{0, 0, 1}, Cost{1, 5}, []int{1, 2}, 0},
		{n, []int{1, 0, 0}, Cost{1, 5}, nil, 0},
		{line(), []int{0, 1}, Cost{1, 5}, []int{0}, 5},
		{abc(), []int{0, 0, 0, 1}, Cost{1, 5}, []int{0, 1, 2}, 15},
		{skipping(), []int{0, 0, 0, 1}, Cost{9, 1000}, []int{0, 3, 2}, 2000},
	} {
		if seq, total, e := Shortest(c.n, c.final, c.cost, 100); e != api.OK || total != c.total || !slices.Equal(seq, c.seq) {
			t.Errorf("case %d: %v %d %v", i, seq, total, e)
		}
	}
}

func TestFitness(t *testing.T) {
	end := []int{0, 0, 0, 1}
	for i, c := range []struct {
		n     api.Net
		final []int
		log   [][]string
		want  api.Rat
	}{
		{line(), []int{0, 1}, [][]string{{"t"}, {"t", "t"}}, api.Rat{Num: 4, Den: 5}},
		{line(), []int{0, 1}, nil, api.Rat{Num: 1, Den: 1}},
		{line(), []int{0, 1}, [][]string{nil}, api.Rat{Num: 0, Den: 1}},
		{line(), []int{1, 0}, [][]string{nil, nil}, api.Rat{Num: 1, Den: 1}},
		{line(), []int{1, 0}, [][]string{{"x"}}, api.Rat{Num: 0, Den: 1}},
		{abc(), end, [][]string{words("a b c"), words("a b c")}, api.Rat{Num: 1, Den: 1}},
		// Costs 1, 1 and 0; lengths 2, 2 and 3; three times 3.
		{abc(), end, [][]string{words("a c"), words("a c"), words("a b c")}, api.Rat{Num: 7, Den: 8}},
		{abc(), end, [][]string{words("c b a")}, api.Rat{Num: 1, Den: 3}},
	} {
		if x, e := Fitness(c.n, c.final, c.log, 100); e != api.OK || x != c.want {
			t.Errorf("case %d: %v %v", i, x, e)
		}
	}
	for i, c := range []struct {
		n   api.Net
		log [][]string
		e   api.Errno
	}{
		{api.Net{}, make([][]string, api.MaxTraces+1), api.ErrSize},
		{api.Net{}, [][]string{make([]string, api.MaxTrace+1)}, api.ErrSize},
		{api.Net{}, [][]string{{"t"}, {"T"}}, api.ErrName},
		{api.Net{}, [][]string{{"t"}}, api.ErrName},
		{line(), [][]string{{"t"}, {"no name"}}, api.ErrName},
		{line(), make([][]string, api.MaxTraces), api.OK},
		{line(), [][]string{slices.Repeat([]string{"t"}, api.MaxTrace)}, api.OK},
	} {
		if x, e := Fitness(c.n, []int{0, 1}, c.log, 100); e != c.e || (e == api.OK) == (x == api.Rat{}) {
			t.Errorf("case %d: %v %v", i, x, e)
		}
	}
}

// defined returns the least cost and the fewest moves of an alignment, by improving the prices of all pairs of a position and a state until none changes.
func defined(g api.Graph, n api.Net, final []int, trace []string, cost Cost) (int, int) {
	type way struct{ cost, moves int }
	const far = 1 << 40
	least := make([][]way, len(trace)+1)
	for i := range least {
		least[i] = slices.Repeat([]way{{far, far}}, len(g.States))
	}
	least[0][0] = way{}
	for changed := true; changed; {
		changed = false
		improve := func(w *way, from way, cost int) {
			if c := from.cost + cost; from.cost < far && (c < w.cost || c == w.cost && from.moves+1 < w.moves) {
				*w = way{c, from.moves + 1}
				changed = true
			}
		}
		for i := range least {
			for s := range g.States {
				if i < len(trace) {
					improve(&least[i+1][s], least[i][s], cost.Log)
				}
			}
			for _, e := range g.Edges {
				name := n.Trans[e.Trans].Name
				switch {
				case name[0] == '_':
					improve(&least[i][e.To], least[i][e.From], 0)
				default:
					improve(&least[i][e.To], least[i][e.From], cost.Net)
					if i < len(trace) && trace[i] == name {
						improve(&least[i+1][e.To], least[i][e.From], 0)
					}
				}
			}
		}
	}
	w := least[len(trace)][explore.Find(g, final)]
	return w.cost, w.moves
}

// random returns a net, some of whose transitions are silent, its state graph, which is complete, and a reachable marking.
func random(t *testing.T, seed uint64, r *rand.Rand) (api.Net, api.Graph, []int, bool) {
	n := nettest.Random(seed, nettest.Shape{Places: 4, Trans: 5, Tokens: 2, Weight: 2, Cap: 3, Inh: int(seed % 3), Prio: int(seed % 2)})
	for i := range n.Trans {
		if r.Intn(4) == 0 {
			n.Trans[i].Name = "_" + strconv.Itoa(i)
		}
	}
	g, e := explore.Explore(n, 60)
	if e != api.OK {
		t.Fatal(n, e)
	}
	return n, g, g.States[r.Intn(len(g.States))], g.Complete && len(n.Trans) > 0
}

func TestRandomNets(t *testing.T) {
	r := rand.New(rand.NewSource(51))
	positive, free := 0, 0
	for seed := range uint64(700) {
		n, g, final, ok := random(t, seed, r)
		if !ok {
			continue
		}
		for range 4 {
			var trace []string
			for range r.Intn(6) {
				trace = append(trace, []string{"x", n.Trans[r.Intn(len(n.Trans))].Name}[min(1, r.Intn(5))])
			}
			cost := Cost{1 + r.Intn(4), 1 + r.Intn(4)}
			l, total, e := Best(n, final, trace, cost, 60)
			least, fewest := defined(g, n, final, trace, cost)
			if e != api.OK || total != least || len(l) != fewest || !Check(n, final, trace, l) || Total(cost, l) != total {
				t.Fatal(n, final, trace, cost, l, total, e, least, fewest)
			}
			if total > 0 {
				positive++
			} else {
				free++
			}
			checkCosts(t, n, final, trace, cost, total)
		}
	}
	if positive < 300 || free < 300 {
		t.Error(positive, free)
	}
}

// checkCosts checks how the least cost depends on the costs and the trace.
func checkCosts(t *testing.T, n api.Net, final []int, trace []string, cost Cost, total int) {
	t.Helper()
	seq, shortest, e := Shortest(n, final, cost, 60)
	if m, f := firing.Run(n, net.Initial(n), seq); e != api.OK || f != (api.Fault{}) || !slices.Equal(m, final) {
		t.Fatal(n, final, seq, e, f)
	}
	if total > cost.Log*len(trace)+shortest {
		t.Fatal(n, final, trace, total, shortest)
	}
	if _, twice, e := Best(n, final, trace, Cost{2 * cost.Log, 2 * cost.Net}, 60); e != api.OK || twice != 2*total {
		t.Fatal(n, final, trace, total, twice, e)
	}
	for _, next := range []string{"x", n.Trans[0].Name} {
		if _, more, e := Best(n, final, append(slices.Clone(trace), next), cost, 60); e != api.OK || more > total+cost.Log || more < total-cost.Net {
			t.Fatal(n, final, trace, next, total, more, e)
		}
	}
}

// The least cost is 0 exactly for the traces of firing sequences.
func TestTraces(t *testing.T) {
	r := rand.New(rand.NewSource(52))
	for seed := range uint64(300) {
		n, _, _, ok := random(t, seed, r)
		if !ok {
			continue
		}
		m := net.Initial(n)
		var trace []string
		for range 8 {
			list := firing.List(n, m)
			if len(list) == 0 {
				break
			}
			u := list[r.Intn(len(list))]
			m, _ = firing.Fire(n, m, u)
			if n.Trans[u].Name[0] != '_' {
				trace = append(trace, n.Trans[u].Name)
			}
		}
		if l, total, e := Best(n, m, trace, Cost{1, 1}, 60); e != api.OK || total != 0 || len(l) < len(trace) {
			t.Fatal(n, m, trace, l, total, e)
		}
	}
}

func TestManyStates(t *testing.T) {
	// Eight independent cycles have 256 states; the trace runs through two of them.
	n := api.Net{Name: "n"}
	for i := range 8 {
		n.Places = append(n.Places, api.Place{Name: "p" + strconv.Itoa(i), Init: 1}, api.Place{Name: "q" + strconv.Itoa(i)})
		n.Trans = append(n.Trans, api.Trans{Name: "t" + strconv.Itoa(i), Pre: arcs(2*i, 1), Post: arcs(2*i+1, 1)}, api.Trans{Name: "u" + strconv.Itoa(i), Pre: arcs(2*i+1, 1), Post: arcs(2*i, 1)})
	}
	trace := slices.Repeat([]string{"t0", "t1", "u0", "u1"}, 16)
	if l, total, e := Best(n, net.Initial(n), trace, Cost{1, 1}, api.MaxStates); e != api.OK || total != 0 || len(l) != 64 {
		t.Error(l, total, e)
	}
	trace[40] = "t7"
	if l, total, e := Best(n, net.Initial(n), trace, Cost{1, 1}, api.MaxStates); e != api.OK || total != 2 || !Check(n, net.Initial(n), trace, l) {
		t.Error(l, total, e)
	}
}
