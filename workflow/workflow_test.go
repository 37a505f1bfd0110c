package workflow

import (
	"slices"
	"strconv"
	"testing"

	"petrinet/api"
	"petrinet/net"
	"petrinet/netclass"
	"petrinet/nettest"
)

type ends = [2][]int

// sequence has p to t to q.
func sequence() api.Net {
	return nettest.Ordinary(2, ends{{0}, {1}})
}

func diagnoses(numbers ...int) []api.Diagnosis {
	var list []api.Diagnosis
	for i := 0; i+1 < len(numbers); i += 2 {
		list = append(list, api.Diagnosis{Kind: numbers[i], N: numbers[i+1]})
	}
	return list
}

func isZero(n api.Net) bool {
	return n.Name == "" && len(n.Places) == 0 && len(n.Trans) == 0
}

func TestProblems(t *testing.T) {
	for i, c := range []struct {
		n            api.Net
		source, sink int
		want         []api.Diagnosis
	}{
		{sequence(), 0, 1, nil},
		{nettest.Ordinary(3, ends{{2}, {0}}, ends{{0}, {1}}, ends{{0}, {0}}), 2, 1, nil},
		// A place alone, and several of them.
		{nettest.Ordinary(1), 0, 0, diagnoses(api.OffPlace, 0)},
		{nettest.Ordinary(2), -1, -1, diagnoses(api.NoSource, 0, api.NoSink, 0)},
		{nettest.Ordinary(1, ends{{0}, {0}}), -1, -1, diagnoses(api.NoSource, 0, api.NoSink, 0)},
		{nettest.Ordinary(2, ends{{0}, {1}}, ends{{1}, {0}}), -1, -1, diagnoses(api.NoSource, 0, api.NoSink, 0)},
		{nettest.Ordinary(3, ends{{0}, {2}}, ends{{1}, {2}}), -1, 2, diagnoses(api.NoSource, 0)},
		{nettest.Ordinary(3, ends{{0}, {1}}, ends{{0}, {2}}), 0, -1, diagnoses(api.NoSink, 0)},
		{nettest.Ordinary(1, ends{{0}, nil}), 0, -1, diagnoses(api.NoSink, 0)},
		// The source is the sink, and a cycle is apart from it.
		{nettest.Ordinary(3, ends{{0}, {1}}, ends{{1}, {0}}), 2, 2, diagnoses(api.OffPlace, 2, api.OffPlace, 0, api.OffPlace, 1, api.OffTrans, 0, api.OffTrans, 1)},
		// Nodes that the source does not reach, or that do not reach the sink.
		{nettest.Ordinary(3, ends{{0}, {1}}, ends{{2}, {2}}), 0, 1, diagnoses(api.OffPlace, 2, api.OffTrans, 1)},
		{nettest.Ordinary(3, ends{{0}, {1}}, ends{{2}, {1, 2}}), 0, 1, diagnoses(api.OffPlace, 2, api.OffTrans, 1)},
		{nettest.Ordinary(3, ends{{0}, {1, 2}}, ends{{2}, {2}}), 0, 1, diagnoses(api.OffPlace, 2, api.OffTrans, 1)},
		{nettest.Ordinary(2, ends{{0}, {1}}, ends{nil, nil}), 0, 1, diagnoses(api.OffTrans, 1)},
		{nettest.Ordinary(2, ends{{0}, {1}}, ends{nil, {1}}, ends{{0}, nil}), 0, 1, diagnoses(api.OffTrans, 1, api.OffTrans, 2)},
		{nettest.Ordinary(2, ends{{0}, nil}, ends{nil, {1}}), 0, 1, diagnoses(api.OffPlace, 0, api.OffPlace, 1, api.OffTrans, 0, api.OffTrans, 1)},
	} {
		p, ok := Source(c.n)
		q, is := Sink(c.n)
		if p != c.source || ok != (p >= 0) || q != c.sink || is != (q >= 0) {
			t.Errorf("case %d: source %d %v, sink %d %v", i, p, ok, q, is)
		}
		if l, e := Problems(c.n); e != api.OK || !slices.Equal(l, c.want) {
			t.Errorf("case %d: %v %v, want %v", i, l, e, c.want)
		}
		if Is(c.n) != (len(c.want) == 0) {
			t.Errorf("case %d: Is %v", i, Is(c.n))
		}
	}
}

func TestErrors(t *testing.T) {
	prior, inhibited, limited, faulty := sequence(), sequence(), sequence(), sequence()
	prior.Trans[0].Prio = 1
	inhibited.Trans[0].Inh = nettest.Arcs(1, 5)
	limited.Places[1].Cap = 1
	faulty.Trans[0].Name = "p0"
	full, named, place, first := sequence(), sequence(), sequence(), sequence()
	for i := 1; i < api.MaxTrans; i++ {
		full.Trans = append(full.Trans, api.Trans{Name: "u" + strconv.Itoa(i), Pre: nettest.Arcs(0, 1), Post: nettest.Arcs(1, 1)})
	}
	named.Trans[0].Name = "_close"
	place.Places[1].Name = "_close"
	first.Places[0].Name = "_close"
	both := full
	both.Trans = slices.Clone(full.Trans)
	both.Trans[3].Name = "_close"
	for i, c := range []struct {
		n               api.Net
		problems, close api.Errno
	}{
		{api.Net{}, api.ErrName, api.ErrName},
		{faulty, api.ErrTwice, api.ErrTwice},
		{prior, api.ErrKind, api.ErrKind},
		{inhibited, api.ErrKind, api.ErrKind},
		{limited, api.ErrKind, api.ErrKind},
		{nettest.Ordinary(1), api.OK, api.ErrState},
		{nettest.Ordinary(2), api.OK, api.ErrState},
		{full, api.OK, api.ErrSize},
		{both, api.OK, api.ErrSize},
		{named, api.OK, api.ErrTwice},
		{place, api.OK, api.ErrTwice},
		{first, api.OK, api.ErrTwice},
	} {
		if l, e := Problems(c.n); e != c.problems || e != api.OK && len(l) != 0 {
			t.Errorf("case %d: Problems %v %v", i, l, e)
		}
		if n, e := Close(c.n); e != c.close || !isZero(n) {
			t.Errorf("case %d: Close %v %v", i, n, e)
		}
		want := c.problems
		if c.close == api.ErrState {
			want = api.ErrState
		}
		if n, e := Prepare(c.n); e != want || (e == api.OK) == isZero(n) {
			t.Errorf("case %d: Prepare %v %v", i, n, e)
		}
		if m, e := Final(c.n); e != want || (e == api.OK) == (len(m) == 0) {
			t.Errorf("case %d: Final %v %v", i, m, e)
		}
		if Is(c.n) != (want == api.OK) {
			t.Errorf("case %d: Is", i)
		}
	}
	// Source and Sink do not require a plain net, but a valid one.
	for i, n := range []api.Net{prior, inhibited, limited} {
		p, ok := Source(n)
		q, is := Sink(n)
		if p != 0 || !ok || q != 1 || !is {
			t.Errorf("case %d: %d %v %d %v", i, p, ok, q, is)
		}
	}
	nameless := nettest.Ordinary(1)
	nameless.Name = ""
	for i, n := range []api.Net{{}, faulty, nameless} {
		p, ok := Source(n)
		q, is := Sink(n)
		if p != -1 || ok || q != -1 || is {
			t.Errorf("case %d: %d %v %d %v", i, p, ok, q, is)
		}
	}
}

func TestPrepareFinalClose(t *testing.T) {
	n := nettest.Ordinary(3, ends{{2}, {0}}, ends{{0}, {1}})
	n.Trans[0].Post[0].W = 5
	n.Places[0].Init, n.Places[2].Init = 7, 2
	want := nettest.Ordinary(3, ends{{2}, {0}}, ends{{0}, {1}})
	want.Trans[0].Post[0].W = 5
	want.Places[2].Init = 1
	prepared, e := Prepare(n)
	if e != api.OK || !net.Same(prepared, want) {
		t.Error(prepared, e)
	}
	if m, e := Final(n); e != api.OK || !slices.Equal(m, []int{0, 1, 0}) {
		t.Error(m, e)
	}
	closed, e := Close(n)
	want.Trans = append(want.Trans, api.Trans{Name: "_close", Pre: nettest.Arcs(1, 1), Post: nettest.Arcs(2, 1)})
	if e != api.OK || !net.Same(closed, want) {
		t.Error(closed, e)
	}
	prepared.Places[1].Init, prepared.Trans[0].Pre[0].W, closed.Trans[1].Post[0].W = 9, 9, 9
	if n.Places[0].Init != 7 || n.Places[1].Init != 0 || n.Trans[0].Pre[0].W != 1 || n.Trans[1].Post[0].W != 1 {
		t.Error("the argument was changed")
	}
}

// paths reports for each pair of nodes whether there is a path, by repeated composition of edges.
func paths(n api.Net) [][]bool {
	k := len(n.Places) + len(n.Trans)
	path := make([][]bool, k)
	for v := range path {
		path[v] = make([]bool, k)
		path[v][v] = true
	}
	for t, x := range n.Trans {
		for _, a := range x.Pre {
			path[a.Place][len(n.Places)+t] = true
		}
		for _, a := range x.Post {
			path[len(n.Places)+t][a.Place] = true
		}
	}
	for m := range k {
		for v := range k {
			for w := range k {
				path[v][w] = path[v][w] || path[v][m] && path[m][w]
			}
		}
	}
	return path
}

// defined returns the problems by the definition.
func defined(n api.Net) []api.Diagnosis {
	var sources, sinks []int
	for p := range n.Places {
		if len(net.Producers(n, p)) == 0 {
			sources = append(sources, p)
		}
		if len(net.Consumers(n, p)) == 0 {
			sinks = append(sinks, p)
		}
	}
	var list []api.Diagnosis
	if len(sources) != 1 {
		list = append(list, api.Diagnosis{Kind: api.NoSource})
	}
	if len(sinks) != 1 {
		list = append(list, api.Diagnosis{Kind: api.NoSink})
	}
	if len(list) > 0 {
		return list
	}
	if sources[0] == sinks[0] {
		list = append(list, api.Diagnosis{Kind: api.OffPlace, N: sources[0]})
	}
	path := paths(n)
	for p := range n.Places {
		if !path[sources[0]][p] || !path[p][sinks[0]] {
			list = append(list, api.Diagnosis{Kind: api.OffPlace, N: p})
		}
	}
	for t := range n.Trans {
		node := len(n.Places) + t
		if !path[sources[0]][node] || !path[node][sinks[0]] {
			list = append(list, api.Diagnosis{Kind: api.OffTrans, N: t})
		}
	}
	return list
}

func TestRandomNets(t *testing.T) {
	workflows, others := 0, 0
	for seed := range uint64(6000) {
		n := nettest.Random(seed, nettest.Shape{Places: 5, Trans: 5, Tokens: 2, Weight: 2})
		l, e := Problems(n)
		if e != api.OK || !slices.Equal(l, defined(n)) || Is(n) != (len(l) == 0) {
			t.Fatal(n, l, e)
		}
		closed, e := Close(n)
		if Is(n) != (e == api.OK) {
			t.Fatal(n, e)
		}
		if e == api.OK {
			workflows++
			checkWorkflow(t, n, closed)
		} else if len(l) > 0 && l[0].Kind > api.NoSink {
			others++
		}
	}
	if workflows < 50 || others < 100 {
		t.Error(workflows, others)
	}
}

func checkWorkflow(t *testing.T, n, closed api.Net) {
	t.Helper()
	prepared, e := Prepare(n)
	final, f := Final(n)
	source, _ := Source(n)
	sink, _ := Sink(n)
	if e != api.OK || f != api.OK || source == sink || net.Initial(prepared)[source] != 1 || final[sink] != 1 {
		t.Fatal(n, prepared, final)
	}
	if !netclass.Strong(closed) || len(closed.Trans) != len(n.Trans)+1 {
		t.Fatal(n, closed)
	}
	more := n
	more.Trans = append(slices.Clone(n.Trans), api.Trans{Name: "more"})
	if l, e := Problems(more); e != api.OK || !slices.Equal(l, diagnoses(api.OffTrans, len(n.Trans))) {
		t.Fatal(more, l, e)
	}
}
