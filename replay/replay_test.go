package replay

import (
	"math"
	"math/rand"
	"slices"
	"testing"

	"petrinet/api"
	"petrinet/firing"
	"petrinet/marking"
	"petrinet/net"
	"petrinet/nettest"
)

var arcs = nettest.Arcs

// sample has a transition from p to q, and one that takes two tokens from q and p.
func sample() api.Net {
	return api.Net{
		Name:   "n",
		Places: []api.Place{{Name: "p", Init: 1}, {Name: "q"}},
		Trans:  []api.Trans{{Name: "t", Pre: arcs(0, 1), Post: arcs(1, 1)}, {Name: "u", Pre: arcs(0, 2, 1, 2), Post: arcs(1, 3)}},
	}
}

func TestTrace(t *testing.T) {
	for i, c := range []struct {
		final []int
		trace []string
		want  Count
		fits  bool
	}{
		{[]int{0, 1}, []string{"t"}, Count{2, 2, 0, 0, 0}, true},
		{[]int{1, 0}, nil, Count{1, 1, 0, 0, 0}, true},
		{[]int{0, 1}, nil, Count{1, 1, 1, 1, 0}, false},
		{[]int{0, 0}, []string{"t"}, Count{2, 1, 0, 1, 0}, false},
		{[]int{0, 2}, []string{"t", "t"}, Count{3, 4, 1, 0, 0}, false},
		{[]int{0, 1}, []string{"x", "t", "p", "", "T?"}, Count{2, 2, 0, 0, 4}, false},
		{[]int{0, 0}, []string{"t", "u"}, Count{5, 5, 3, 3, 0}, false},
		{[]int{3, 9}, []string{"u", "t"}, Count{5, 17, 12, 0, 0}, false},
	} {
		got, e := Trace(sample(), c.final, c.trace)
		if got != c.want || e != api.OK {
			t.Errorf("case %d: %v %d, want %v", i, got, e, c.want)
		}
		if ok, e := Fits(sample(), c.final, c.trace); ok != c.fits || e != api.OK {
			t.Errorf("case %d: Fits %t %d", i, ok, e)
		}
		if got, e := Log(sample(), c.final, [][]string{{"t"}, {"t", "u"}}); got.Unknown != 0 || e != api.OK {
			t.Errorf("case %d: Log %v %d", i, got, e)
		}
	}
}

func TestLog(t *testing.T) {
	if c, e := Log(sample(), []int{0, 1}, [][]string{{"t"}, {"x"}, nil}); c != (Count{2 + 1 + 1, 2 + 1 + 1, 2, 2, 1}) || e != api.OK {
		t.Error(c, e)
	}
	if c, e := Log(sample(), []int{0, 1}, nil); c != (Count{}) || e != api.OK {
		t.Error(c, e)
	}
}

func TestErrors(t *testing.T) {
	broken, special := sample(), sample()
	broken.Trans[1].Name = "t"
	special.Places[0].Cap = 1
	long := slices.Repeat([]string{"t"}, api.MaxTrace+1)
	final := []int{0, 1}
	for i, c := range []struct {
		n     api.Net
		final []int
		trace []string
		e     api.Errno
	}{
		{broken, nil, long, api.ErrTwice},
		{special, nil, long, api.ErrKind},
		{sample(), nil, long, api.ErrSize},
		{sample(), []int{0}, nil, api.ErrSize},
		{sample(), []int{0, 1, 0}, nil, api.ErrSize},
		{sample(), []int{0, -1}, nil, api.ErrSize},
		{sample(), []int{api.MaxTokens + 1, 0}, nil, api.ErrSize},
		{sample(), final, long, api.ErrSize},
		{sample(), final, long[1:], api.OK},
		// The tokens of the final marking, together with those that were consumed.
		{sample(), []int{api.MaxTokens, 0}, nil, api.OK},
		{sample(), []int{api.MaxTokens, 1}, nil, api.ErrOver},
		{sample(), []int{api.MaxTokens, 0}, []string{"t"}, api.ErrOver},
	} {
		count, e := Trace(c.n, c.final, c.trace)
		if e != c.e || e != api.OK && count != (Count{}) {
			t.Errorf("case %d: %v %d, want %d", i, count, e, c.e)
		}
		if ok, e := Fits(c.n, c.final, c.trace); e != c.e || e != api.OK && ok {
			t.Errorf("case %d: Fits %t %d", i, ok, e)
		}
		if count, e := Log(c.n, c.final, [][]string{nil, c.trace}); i < 11 && e != c.e && c.final[0] != api.MaxTokens || e != api.OK && count != (Count{}) {
			t.Errorf("case %d: Log %v %d", i, count, e)
		}
	}
	if c, e := Log(sample(), final, [][]string{{"?"}}); c != (Count{}) || e != api.ErrName {
		t.Error(c, e)
	}
	if c, e := Log(sample(), final, make([][]string, api.MaxTraces+1)); c != (Count{}) || e != api.ErrSize {
		t.Error(c, e)
	}
	if c, e := Log(sample(), []int{0}, [][]string{{"?"}}); c != (Count{}) || e != api.ErrSize {
		t.Error(c, e)
	}
	if c, e := Log(special, []int{0}, [][]string{{"?"}}); c != (Count{}) || e != api.ErrKind {
		t.Error(c, e)
	}
}

func TestOver(t *testing.T) {
	n := sample()
	n.Places[0].Init = api.MaxTokens
	final := []int{api.MaxTokens, 0}
	if c, e := Trace(n, final, nil); c != (Count{api.MaxTokens, api.MaxTokens, 0, 0, 0}) || e != api.OK {
		t.Error(c, e)
	}
	if c, e := Trace(n, final, []string{"t"}); c != (Count{}) || e != api.ErrOver {
		t.Error("Produced", c, e)
	}
	if c, e := Log(n, final, [][]string{nil}); c != (Count{api.MaxTokens, api.MaxTokens, 0, 0, 0}) || e != api.OK {
		t.Error(c, e)
	}
	if c, e := Log(n, final, [][]string{nil, nil}); c != (Count{}) || e != api.ErrOver {
		t.Error("a sum", c, e)
	}
	n.Places[1].Init = 1
	if c, e := Trace(n, final, nil); c != (Count{}) || e != api.ErrOver {
		t.Error("the initial marking", c, e)
	}
	n.Places[0].Init, n.Places[1].Init = 500000, 500000
	if c, e := Log(n, []int{0, 0}, [][]string{nil, nil, nil}); c != (Count{}) || e != api.ErrOver {
		t.Error("Remaining and Produced", c, e)
	}
	if c, e := Log(sample(), []int{0, 500000}, [][]string{nil, nil, nil}); c != (Count{}) || e != api.ErrOver {
		t.Error("Missing and Consumed", c, e)
	}
}

func TestFitness(t *testing.T) {
	for _, x := range []struct {
		c    Count
		want api.Rat
	}{
		{Count{}, api.Rat{Num: 1, Den: 1}},
		{Count{2, 2, 0, 0, 0}, api.Rat{Num: 1, Den: 1}},
		{Count{2, 2, 0, 0, 7}, api.Rat{Num: 1, Den: 1}},
		{Count{2, 2, 1, 0, 0}, api.Rat{Num: 3, Den: 4}},
		{Count{2, 3, 1, 1, 0}, api.Rat{Num: 7, Den: 12}},
		{Count{4, 4, 4, 4, 0}, api.Rat{Num: 0, Den: 1}},
		{Count{0, 3, 3, 0, 0}, api.Rat{Num: 1, Den: 2}},
		{Count{3, 0, 0, 3, 0}, api.Rat{Num: 1, Den: 2}},
		{Count{10000, 9999, 1, 1, 10000}, api.Rat{Num: 199960001, Den: 199980000}},
	} {
		if r, e := Fitness(x.c); r != x.want || e != api.OK {
			t.Error(x.c, r, e)
		}
	}
	for _, c := range []Count{{-1, 2, 0, 0, 0}, {2, -1, 0, 0, 0}, {2, 2, -1, 0, 0}, {2, 2, 0, -1, 0}, {2, 2, 0, 0, -1}, {10001, 0, 0, 0, 0}, {0, 10001, 0, 0, 0}, {0, 0, 0, 0, 10001}, {2, 2, 3, 0, 0}, {2, 2, 0, 3, 0}, {9, 0, 1, 0, 0}, {0, 9, 0, 1, 0}, {math.MaxInt, math.MaxInt, 0, 0, 0}, {math.MinInt, 0, 0, 0, 0}} {
		if r, e := Fitness(c); r != (api.Rat{}) || e != api.ErrRange {
			t.Error(c, r, e)
		}
	}
}

func TestRandomTraces(t *testing.T) {
	r := rand.New(rand.NewSource(50))
	fitting := 0
	for seed := range uint64(800) {
		n := nettest.Random(seed, nettest.Shape{Places: 4, Trans: 4, Tokens: 2, Weight: 2})
		m := net.Initial(n)
		var trace []string
		runs, known := true, true
		for range r.Intn(6) {
			if list := firing.List(n, m); runs && len(list) > 0 && r.Intn(5) > 0 {
				i := list[r.Intn(len(list))]
				m, _ = firing.Fire(n, m, i)
				trace = append(trace, n.Trans[i].Name)
				continue
			}
			i := r.Intn(5)
			trace = append(trace, "t"+string(rune('0'+i)))
			if i >= len(n.Trans) {
				known = false
			} else if after, e := firing.Fire(n, m, i); e != api.OK {
				runs = false
			} else {
				m = after
			}
		}
		final := slices.Clone(m)
		if r.Intn(3) == 0 {
			final[r.Intn(len(final))] += r.Intn(2)
		}
		want := runs && known && marking.Compare(final, m) == 0
		if ok, e := Fits(n, final, trace); ok != want || e != api.OK {
			t.Fatal("Fits", n, final, trace, ok, e)
		}
		if want {
			fitting++
		}
		c, e := Trace(n, final, trace)
		l, f := Log(n, final, [][]string{trace, trace})
		if e != api.OK || f != api.OK || l != c.plus(c) || c.Produced+c.Missing != c.Consumed+c.Remaining {
			t.Fatal("the balance of a count", n, final, trace, c, l)
		}
		fitness, e := Fitness(c)
		if (fitness == api.Rat{Num: 1, Den: 1}) != (c.Missing == 0 && c.Remaining == 0) || e != api.OK {
			t.Fatal("Fitness", c, fitness, e)
		}
	}
	if fitting < 200 || fitting > 700 {
		t.Error("fitting traces", fitting)
	}
}
