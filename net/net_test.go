package net

import (
	"math"
	"math/rand"
	"slices"
	"strconv"
	"strings"
	"testing"

	"petrinet/api"
)

// sample is a valid net that has all that nets can have.
func sample() api.Net {
	return api.Net{
		Name:   "sample",
		Places: []api.Place{{Name: "p", Init: 3}, {Name: "q", Init: 2, Cap: 2}, {Name: "r"}},
		Trans: []api.Trans{
			{Name: "t", Pre: []api.Arc{{Place: 0, W: 2}, {Place: 1, W: 1}}, Post: []api.Arc{{Place: 1, W: 4}, {Place: 2, W: 1}}, Inh: []api.Arc{{Place: 2, W: 5}}, Prio: 9},
			{Name: "u", Pre: []api.Arc{{Place: 2, W: 99}}},
			{Name: "v", Post: []api.Arc{{Place: 0, W: 1}, {Place: 2, W: 2}}},
		},
	}
}

// large has as many places, transitions and arcs as a net can have.
func large() api.Net {
	n := api.Net{Name: strings.Repeat("n", api.MaxName)}
	var arcs []api.Arc
	for i := range api.MaxPlaces {
		n.Places = append(n.Places, api.Place{Name: "p" + strconv.Itoa(i), Init: api.MaxTokens, Cap: api.MaxTokens})
		arcs = append(arcs, api.Arc{Place: i, W: api.MaxWeight})
	}
	for i := range api.MaxTrans {
		n.Trans = append(n.Trans, api.Trans{Name: "t" + strconv.Itoa(i), Pre: arcs, Post: arcs, Inh: arcs, Prio: api.MaxPrio})
	}
	return n
}

func TestName(t *testing.T) {
	for _, s := range []string{"a", "_", "z.9_", strings.Repeat("a", 16)} {
		if !Name(s) {
			t.Errorf("%q is a name", s)
		}
	}
	for _, s := range []string{"", "9", ".a", "A", "aé", "a b", "a-b", "é", "a\xff", "\x00", strings.Repeat("a", 17)} {
		if Name(s) {
			t.Errorf("%q is no name", s)
		}
	}
}

func TestCheckValid(t *testing.T) {
	for _, n := range []api.Net{sample(), large(), {Name: "n", Places: []api.Place{{Name: "p"}}}} {
		if f := Check(n); f != (api.Fault{}) {
			t.Errorf("%s has the fault %v", n.Name, f)
		}
	}
}

func TestCheck(t *testing.T) {
	for i, c := range []struct {
		change func(n *api.Net)
		errno  api.Errno
		at     int
	}{
		{func(n *api.Net) { n.Name = "" }, api.ErrName, 0},
		{func(n *api.Net) { n.Name, n.Places = "N", nil }, api.ErrName, 0},
		{func(n *api.Net) { n.Places = nil }, api.ErrSize, 0},
		{func(n *api.Net) { n.Places = make([]api.Place, api.MaxPlaces+1) }, api.ErrSize, 0},
		{func(n *api.Net) { n.Trans = make([]api.Trans, api.MaxTrans+1) }, api.ErrSize, 0},
		{func(n *api.Net) { n.Trans, n.Places[0].Name = make([]api.Trans, api.MaxTrans+1), "" }, api.ErrSize, 0},
		{func(n *api.Net) { n.Places[1].Name = "q!" }, api.ErrName, 1},
		{func(n *api.Net) { n.Places[1].Name, n.Places[1].Cap = "", -1 }, api.ErrName, 1},
		{func(n *api.Net) { n.Places[1].Name = "p" }, api.ErrTwice, 1},
		{func(n *api.Net) { n.Places[2].Name, n.Places[2].Cap = "p", -1 }, api.ErrTwice, 2},
		{func(n *api.Net) { n.Places[1].Cap = -1 }, api.ErrRange, 1},
		{func(n *api.Net) { n.Places[1].Cap = api.MaxTokens + 1 }, api.ErrRange, 1},
		{func(n *api.Net) { n.Places[1].Cap, n.Places[1].Init = math.MinInt, -1 }, api.ErrRange, 1},
		{func(n *api.Net) { n.Places[2].Init = -1 }, api.ErrInit, 2},
		{func(n *api.Net) { n.Places[2].Init = api.MaxTokens + 1 }, api.ErrInit, 2},
		{func(n *api.Net) { n.Places[1].Init = 3 }, api.ErrInit, 1},
		{func(n *api.Net) { n.Places[1].Init, n.Trans[0].Name = 3, "" }, api.ErrInit, 1},
		{func(n *api.Net) { n.Places[2].Name, n.Places[1].Init = "", 3 }, api.ErrInit, 1},
		{func(n *api.Net) { n.Trans[0].Name = "T" }, api.ErrName, 3},
		{func(n *api.Net) { n.Trans[1].Name = "q" }, api.ErrTwice, 4},
		{func(n *api.Net) { n.Trans[2].Name = "t" }, api.ErrTwice, 5},
		{func(n *api.Net) { n.Trans[2].Name, n.Trans[2].Prio = "t", 10 }, api.ErrTwice, 5},
		{func(n *api.Net) { n.Trans[1].Prio = -1 }, api.ErrRange, 4},
		{func(n *api.Net) { n.Trans[1].Prio = api.MaxPrio + 1 }, api.ErrRange, 4},
		{func(n *api.Net) { n.Trans[0].Prio, n.Trans[0].Pre[0].Place = 10, -1 }, api.ErrRange, 3},
		{func(n *api.Net) { n.Trans[0].Pre[0].Place = -1 }, api.ErrNone, 3},
		{func(n *api.Net) { n.Trans[0].Pre[1].Place = 3 }, api.ErrNone, 3},
		{func(n *api.Net) { n.Trans[0].Post[1].Place = math.MaxInt }, api.ErrNone, 3},
		{func(n *api.Net) { n.Trans[0].Inh[0].Place = math.MinInt }, api.ErrNone, 3},
		{func(n *api.Net) { n.Trans[0].Pre[0] = api.Arc{Place: 3, W: 0} }, api.ErrNone, 3},
		{func(n *api.Net) { n.Trans[0].Pre[1].Place = 0 }, api.ErrOrder, 3},
		{func(n *api.Net) { n.Trans[0].Pre[1] = api.Arc{Place: 0, W: 100} }, api.ErrOrder, 3},
		{func(n *api.Net) { n.Trans[2].Post[0].Place, n.Trans[2].Post[1].Place = 2, 0 }, api.ErrOrder, 5},
		{func(n *api.Net) { n.Trans[1].Inh = []api.Arc{{Place: 1, W: 1}, {Place: 1, W: 1}} }, api.ErrOrder, 4},
		{func(n *api.Net) { n.Trans[0].Pre[0].W = 0 }, api.ErrWeight, 3},
		{func(n *api.Net) { n.Trans[0].Pre[0].W, n.Trans[0].Pre[1].Place = 0, 0 }, api.ErrWeight, 3},
		{func(n *api.Net) { n.Trans[1].Pre[0].W = api.MaxWeight + 1 }, api.ErrWeight, 4},
		{func(n *api.Net) { n.Trans[0].Post[1].W = -1 }, api.ErrWeight, 3},
		{func(n *api.Net) { n.Trans[0].Inh[0].W = 0 }, api.ErrWeight, 3},
		{func(n *api.Net) { n.Trans[0].Inh[0].W, n.Trans[0].Post[0].Place = 0, 7 }, api.ErrNone, 3},
		{func(n *api.Net) { n.Trans[0].Post[0].W, n.Trans[0].Pre[1].Place = 0, 0 }, api.ErrOrder, 3},
	} {
		n := sample()
		c.change(&n)
		if f := Check(n); f != (api.Fault{Errno: c.errno, At: c.at}) {
			t.Errorf("case %d has the fault %v, want %d at %d", i, f, c.errno, c.at)
		}
	}
}

func TestPlacesMayRepeatInOtherLists(t *testing.T) {
	n := sample()
	n.Trans[1] = api.Trans{Name: "u", Pre: []api.Arc{{Place: 2, W: 1}}, Post: []api.Arc{{Place: 0, W: 1}}, Inh: []api.Arc{{Place: 0, W: 1}}}
	if f := Check(n); f != (api.Fault{}) {
		t.Error(f)
	}
}

func TestPlaceTrans(t *testing.T) {
	n := sample()
	if Place(n, "p") != 0 || Place(n, "r") != 2 || Place(n, "t") != -1 || Place(n, "") != -1 || Place(n, "sample") != -1 {
		t.Error("Place")
	}
	if Trans(n, "t") != 0 || Trans(n, "v") != 2 || Trans(n, "p") != -1 || Trans(n, "") != -1 {
		t.Error("Trans")
	}
}

func TestPrePost(t *testing.T) {
	n := sample()
	pre := [][]int{{2, 1, 0}, {0, 0, 99}, {0, 0, 0}}
	post := [][]int{{0, 4, 1}, {0, 0, 0}, {1, 0, 2}}
	for trans := range pre {
		for p := range pre[trans] {
			if Pre(n, trans, p) != pre[trans][p] || Post(n, trans, p) != post[trans][p] {
				t.Errorf("weights of %d and %d: %d %d", trans, p, Pre(n, trans, p), Post(n, trans, p))
			}
		}
	}
	for _, i := range []int{-1, 3, math.MinInt, math.MaxInt} {
		if Pre(n, i, 0) != 0 || Pre(n, 0, i) != 0 || Post(n, i, 1) != 0 || Post(n, 0, i) != 0 {
			t.Errorf("index %d does not exist", i)
		}
	}
}

func TestIncidenceInitial(t *testing.T) {
	n := sample()
	if got := Incidence(n); !slices.EqualFunc(got, [][]int64{{-2, 0, 1}, {3, 0, 0}, {1, -99, 2}}, slices.Equal[[]int64]) {
		t.Error(got)
	}
	if got := Initial(n); !slices.Equal(got, []int{3, 2, 0}) {
		t.Error(got)
	}
	n.Trans = nil
	if got := Incidence(n); len(got) != 0 {
		t.Error("without transitions", got)
	}
	if got := Initial(n); !slices.Equal(got, []int{3, 2, 0}) {
		t.Error(got)
	}
}

func TestPlain(t *testing.T) {
	plain := func() api.Net {
		n := sample()
		n.Places[1].Cap, n.Trans[0].Inh, n.Trans[0].Prio = 0, nil, 0
		return n
	}
	if !Plain(plain()) || !Plain(api.Net{Name: "n", Places: []api.Place{{Name: "p"}}}) {
		t.Error("plain nets")
	}
	for i, change := range []func(n *api.Net){
		func(n *api.Net) { n.Places[2].Cap = 1 },
		func(n *api.Net) { n.Trans[2].Prio = 1 },
		func(n *api.Net) { n.Trans[1].Inh = []api.Arc{{Place: 0, W: 1}} },
	} {
		n := plain()
		if change(&n); Plain(n) {
			t.Errorf("case %d is not plain", i)
		}
	}
}

func TestOrdinary(t *testing.T) {
	n := api.Net{Name: "n", Places: []api.Place{{Name: "p", Cap: 5}, {Name: "q"}}, Trans: []api.Trans{
		{Name: "t", Pre: []api.Arc{{Place: 0, W: 1}}, Post: []api.Arc{{Place: 0, W: 1}, {Place: 1, W: 1}}, Inh: []api.Arc{{Place: 1, W: 7}}, Prio: 1},
		{Name: "u"},
	}}
	if !Ordinary(n) {
		t.Error("weights of inhibitor arcs do not count")
	}
	n.Trans[0].Post[1].W = 2
	if Ordinary(n) {
		t.Error("an output weight")
	}
	n.Trans[0].Post[1].W, n.Trans[0].Pre[0].W = 1, 2
	if Ordinary(n) {
		t.Error("an input weight")
	}
}

func TestSame(t *testing.T) {
	if !Same(sample(), sample()) || !Same(large(), large()) {
		t.Error("equal nets")
	}
	a, b := sample(), sample()
	a.Trans[1].Post, b.Trans[1].Post = nil, []api.Arc{}
	if !Same(a, b) {
		t.Error("nil and empty lists are equal")
	}
	for i, change := range []func(n *api.Net){
		func(n *api.Net) { n.Name = "other" },
		func(n *api.Net) { n.Places[0].Name = "o" },
		func(n *api.Net) { n.Places[0].Init = 4 },
		func(n *api.Net) { n.Places[1].Cap = 3 },
		func(n *api.Net) { n.Places = append(n.Places, api.Place{Name: "o"}) },
		func(n *api.Net) { n.Trans = n.Trans[:2] },
		func(n *api.Net) { n.Trans[0].Name = "o" },
		func(n *api.Net) { n.Trans[0].Prio = 8 },
		func(n *api.Net) { n.Trans[0].Pre[0].W = 3 },
		func(n *api.Net) { n.Trans[1].Pre[0].Place = 1 },
		func(n *api.Net) { n.Trans[0].Post = n.Trans[0].Post[:1] },
		func(n *api.Net) { n.Trans[0].Inh[0].W = 4 },
		func(n *api.Net) { n.Trans[0], n.Trans[1] = n.Trans[1], n.Trans[0] },
	} {
		n := sample()
		change(&n)
		if Check(n) != (api.Fault{}) || Same(n, sample()) || Same(sample(), n) {
			t.Errorf("case %d is another valid net", i)
		}
	}
	n := sample()
	n.Name = "N"
	if Same(n, n) || Same(n, sample()) || Same(sample(), n) || Same(api.Net{}, api.Net{}) {
		t.Error("nets that are not valid")
	}
}

func TestNeighbors(t *testing.T) {
	n := sample()
	for i, want := range [][4][]int{
		{{0, 1}, {1, 2}, {2}, {0}},
		{{2}, nil, {0}, {0}},
		{nil, {0, 2}, {0, 2}, {1}},
	} {
		got := [4][]int{Inputs(n, i), Outputs(n, i), Producers(n, i), Consumers(n, i)}
		for k := range got {
			if !slices.Equal(got[k], want[k]) {
				t.Errorf("neighbors of %d: %v, want %v", i, got, want)
			}
		}
	}
	for _, i := range []int{-1, 3, math.MaxInt, math.MinInt} {
		if len(Inputs(n, i))+len(Outputs(n, i))+len(Producers(n, i))+len(Consumers(n, i)) != 0 {
			t.Errorf("index %d does not exist", i)
		}
	}
}

func TestNeighborsAgree(t *testing.T) {
	source := rand.New(rand.NewSource(9))
	for range 200 {
		n := random(source)
		if f := Check(n); f != (api.Fault{}) {
			t.Fatal(f)
		}
		incidence := Incidence(n)
		for trans := range n.Trans {
			for p := range n.Places {
				in, out := slices.Contains(Inputs(n, trans), p), slices.Contains(Outputs(n, trans), p)
				if in != slices.Contains(Consumers(n, p), trans) || in != (Pre(n, trans, p) > 0) {
					t.Fatalf("inputs of %v", n)
				}
				if out != slices.Contains(Producers(n, p), trans) || out != (Post(n, trans, p) > 0) {
					t.Fatalf("outputs of %v", n)
				}
				if incidence[p][trans] != int64(Post(n, trans, p)-Pre(n, trans, p)) {
					t.Fatalf("incidence of %v", n)
				}
			}
		}
	}
}

func random(source *rand.Rand) api.Net {
	n := api.Net{Name: "n"}
	for i := range 1 + source.Intn(4) {
		n.Places = append(n.Places, api.Place{Name: "p" + strconv.Itoa(i)})
	}
	arcs := func() []api.Arc {
		var list []api.Arc
		for p := range n.Places {
			if source.Intn(2) == 0 {
				list = append(list, api.Arc{Place: p, W: 1 + source.Intn(3)})
			}
		}
		return list
	}
	for i := range 1 + source.Intn(4) {
		n.Trans = append(n.Trans, api.Trans{Name: "t" + strconv.Itoa(i), Pre: arcs(), Post: arcs()})
	}
	return n
}

func TestInvalidNets(t *testing.T) {
	for _, change := range []func(n *api.Net){
		func(n *api.Net) { n.Name = "" },
		func(n *api.Net) { n.Trans[0].Pre[0].Place = 99 },
		func(n *api.Net) { n.Trans[2].Name = "p" },
		func(n *api.Net) { n.Trans[0].Inh[0].W = 0 },
	} {
		n := sample()
		change(&n)
		if Place(n, "q") != -1 || Trans(n, "u") != -1 || Pre(n, 0, 1) != 0 || Post(n, 0, 1) != 0 {
			t.Error("numbers of a net that is not valid")
		}
		if len(Incidence(n)) != 0 || len(Initial(n)) != 0 || Plain(n) || Ordinary(n) {
			t.Error("answers about a net that is not valid")
		}
		if len(Inputs(n, 0))+len(Outputs(n, 0))+len(Producers(n, 0))+len(Consumers(n, 0)) != 0 {
			t.Error("neighbors in a net that is not valid")
		}
	}
	// It would be plain and ordinary, but for its name.
	n := api.Net{Name: "N", Places: []api.Place{{Name: "p", Init: 1}}, Trans: []api.Trans{{Name: "t"}}}
	if Plain(n) || Ordinary(n) {
		t.Error("a net with a wrong name")
	}
}
