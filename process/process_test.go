package process

import (
	"slices"
	"testing"

	"petrinet/api"
	"petrinet/nettest"
)

func TestSet(t *testing.T) {
	var s, more Set
	for _, i := range []int{70, 3, 64, 3} {
		s.Add(i)
	}
	if l := slices.Collect(s.Elements()); !slices.Equal(l, []int{3, 64, 70}) || !s.Has(64) || s.Has(0) || s.Has(6400) {
		t.Error(l)
	}
	more.Add(200)
	more.Add(64)
	s.AddAll(more)
	s.AddAll(nil)
	if l := slices.Collect(s.Elements()); !slices.Equal(l, []int{3, 64, 70, 200}) {
		t.Error(l)
	}
	s.Add(201)
	if l := slices.Collect(more.Elements()); !slices.Equal(l, []int{64, 200}) {
		t.Error(l)
	}
	for i := range s.Elements() {
		if i == 64 {
			break
		}
	}
}

// grown has a choice between two transitions on place 0, and a third one that takes what the first one of them and another one produce.
func grown() *Process {
	n := nettest.Ordinary(4, [2][]int{{0}, {2}}, [2][]int{{0}, {2, 3}}, [2][]int{{1}, {3}}, [2][]int{{2, 3}, {0, 1}})
	p := New(n, []api.Cond{{Place: 0, From: -1}, {Place: 1, From: -1}})
	p.Add(0, []int{0})
	p.Add(1, []int{0})
	p.Add(2, []int{1})
	p.Add(3, []int{2, 5})
	return p
}

func TestProcess(t *testing.T) {
	p := grown()
	if !slices.Equal(p.Conds, []api.Cond{{Place: 0, From: -1}, {Place: 1, From: -1}, {Place: 2, From: 0}, {Place: 2, From: 1}, {Place: 3, From: 1}, {Place: 3, From: 2}, {Place: 0, From: 3}, {Place: 1, From: 3}}) {
		t.Error(p.Conds)
	}
	if e := p.Events[3]; e.Trans != 3 || !slices.Equal(e.Pre, []int{2, 5}) || !slices.Equal(e.Post, []int{6, 7}) || e.Cut {
		t.Error(e)
	}
	if !p.Has(3, []int{2, 5}) || p.Has(3, []int{2, 4}) || p.Has(2, []int{0}) || !p.Has(1, []int{0}) {
		t.Error("Has")
	}
	concurrent := [][2]int{{0, 1}, {0, 5}, {1, 2}, {1, 3}, {1, 4}, {2, 5}, {3, 4}, {3, 5}, {4, 5}, {6, 7}}
	for c := range p.Conds {
		for d := range p.Conds {
			if p.Concurrent(c, d) != slices.Contains(concurrent, [2]int{min(c, d), max(c, d)}) {
				t.Error(c, d)
			}
		}
	}
}

func TestParallel(t *testing.T) {
	p := grown()
	// Event 3 follows events 0 and 2, and event 4 follows event 1.
	p.Add(3, []int{3, 4})
	for e := range p.Events {
		for f := range p.Events {
			if p.Parallel(e, f) != slices.Contains([][2]int{{0, 2}, {1, 2}, {2, 4}}, [2]int{min(e, f), max(e, f)}) {
				t.Error(e, f)
			}
		}
	}
}

func TestAfter(t *testing.T) {
	b := grown().Branching
	for _, c := range []struct {
		events []int
		want   Tokens
	}{
		{nil, Tokens{1, 1}},
		{[]int{0}, Tokens{0, 1, 1}},
		{[]int{1, 2}, Tokens{0, 0, 1, 2}},
		{[]int{0, 2, 3}, Tokens{1, 1}},
	} {
		if m := After(b, c.events); m != c.want {
			t.Error(c.events, m)
		}
	}
	if m := After(api.Branching{}, nil); m != (Tokens{}) {
		t.Error(m)
	}
}

func TestCosets(t *testing.T) {
	p := grown()
	for _, c := range []struct {
		places, candidates []int
		want               [][]int
	}{
		{nil, nil, [][]int{nil}},
		{nil, []int{1, 2}, [][]int{nil}},
		{[]int{1}, nil, nil},
		{[]int{2}, []int{0, 1, 2, 3, 4, 5}, [][]int{{2}, {3}}},
		{[]int{2, 3}, []int{0, 1, 2, 3, 4, 5, 6, 7}, [][]int{{2, 5}, {3, 4}, {3, 5}}},
		{[]int{2, 3}, []int{0, 1, 2, 3, 4}, [][]int{{3, 4}}},
		{[]int{0, 3}, []int{0, 1, 2, 3, 4, 5, 6}, [][]int{{0, 5}}},
		{[]int{1, 2, 3}, []int{1, 2, 3, 4, 5}, [][]int{{1, 3, 4}}},
		{[]int{0, 1, 2}, []int{0, 1, 2, 3, 4, 5, 6, 7}, nil},
	} {
		var list [][]int
		for coset := range p.Cosets(c.places, c.candidates) {
			list = append(list, slices.Clone(coset))
		}
		if !slices.EqualFunc(list, c.want, slices.Equal[[]int]) {
			t.Error(c.places, c.candidates, list)
		}
	}
	for range p.Cosets([]int{2, 3}, []int{2, 3, 4, 5}) {
		break
	}
}
