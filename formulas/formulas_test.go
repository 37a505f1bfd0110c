package formulas

import (
	"slices"
	"testing"

	"petrinet/api"
)

func TestCopy(t *testing.T) {
	f := api.Formula{Kind: api.Not, N: 1, Rel: 2, Value: 3, Kids: []api.Formula{{Kind: 99, Kids: []api.Formula{{}, {N: 7}}}}}
	g, ok := Copy(f, 3)
	if !ok || g.Kind != api.Not || g.N != 1 || g.Rel != 2 || g.Value != 3 || len(g.Kids) != 1 || g.Kids[0].Kind != 99 || len(g.Kids[0].Kids) != 2 || g.Kids[0].Kids[1].N != 7 {
		t.Error(g, ok)
	}
	g.Kids[0].Kids[1].N = 8
	g.Kids[0].Kind = 0
	if f.Kids[0].Kind != 99 || f.Kids[0].Kids[1].N != 7 {
		t.Error("shared", f)
	}
	if g, ok := Copy(f, 2); ok || g.Kind != 0 || len(g.Kids) != 0 {
		t.Error(g, ok)
	}
}

func TestCopyOfItself(t *testing.T) {
	f := api.Formula{Kind: api.And, Kids: make([]api.Formula, 2)}
	f.Kids[0], f.Kids[1] = f, f
	if g, ok := Copy(f, Deepest); ok || len(g.Kids) != 0 {
		t.Error(g, ok)
	}
}

// nested returns a formula with that many levels, whose N is the number of levels below.
func nested(levels int) api.Formula {
	f := api.Formula{}
	for n := range levels - 1 {
		f = api.Formula{N: n + 1, Kids: []api.Formula{f}}
	}
	return f
}

func TestCheck(t *testing.T) {
	var visited []int
	checkPart := func(part api.Formula) api.Errno {
		visited = append(visited, part.N)
		if part.Kind == api.Dead {
			return api.ErrKind
		}
		return api.OK
	}
	dead := api.Formula{N: 9, Kind: api.Dead, Kids: []api.Formula{{N: 10}}}
	for i, c := range []struct {
		f       api.Formula
		visited []int
		e       api.Errno
	}{
		{api.Formula{N: 3}, []int{3}, api.OK},
		{nested(3), []int{2, 1, 0}, api.OK},
		{nested(16), []int{15, 14, 13, 12, 11, 10, 9, 8, 7, 6, 5, 4, 3, 2, 1, 0}, api.OK},
		{nested(17), []int{16, 15, 14, 13, 12, 11, 10, 9, 8, 7, 6, 5, 4, 3, 2, 1}, api.ErrDepth},
		{dead, []int{9}, api.ErrKind},
		{api.Formula{N: 4, Kids: []api.Formula{nested(2), dead, nested(17)}}, []int{4, 1, 0, 9}, api.ErrKind},
		{api.Formula{N: 20, Kids: []api.Formula{{N: 21, Kids: []api.Formula{{N: 22}}}, {N: 23}}}, []int{20, 21, 22, 23}, api.OK},
	} {
		visited = nil
		if e := Check(c.f, checkPart); e != c.e || !slices.Equal(visited, c.visited) {
			t.Error(i, e, visited)
		}
	}
}
