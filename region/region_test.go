package region

import (
	"math"
	"math/bits"
	"math/rand"
	"slices"
	"strconv"
	"testing"

	"petrinet/api"
	"petrinet/bitset"
)

// made returns a system with events a, b and so on, and arcs given as from, event and to.
func made(states, events int, arcs ...[3]int) api.System {
	s := api.System{States: states}
	for i := range events {
		s.Events = append(s.Events, string(rune('a'+i)))
	}
	for _, a := range arcs {
		s.Arcs = append(s.Arcs, api.Edge{From: a[0], Trans: a[1], To: a[2]})
	}
	return s
}

func cycle() api.System {
	return made(2, 2, [3]int{0, 0, 1}, [3]int{1, 1, 0})
}

func TestExample(t *testing.T) {
	if l, e := All(cycle()); !slices.Equal(l, []uint64{0, 1, 2, 3}) || e != api.OK {
		t.Error(l, e)
	}
	if l, e := Minimal(cycle()); !slices.Equal(l, []uint64{1, 2}) || e != api.OK {
		t.Error(l, e)
	}
	if !slices.Equal(Pre(cycle(), 1), []int{0}) || !slices.Equal(Post(cycle(), 1), []int{1}) {
		t.Error(Pre(cycle(), 1), Post(cycle(), 1))
	}
}

func TestSign(t *testing.T) {
	s := made(4, 4, [3]int{0, 0, 1}, [3]int{0, 1, 0}, [3]int{1, 1, 2}, [3]int{2, 0, 3}, [3]int{3, 2, 0})
	for _, c := range []struct {
		set         uint64
		event, sign int
		ok          bool
	}{
		{0, 0, Crosses, true},
		{15, 0, Crosses, true},
		{5, 0, Leaves, true},
		{10, 0, Enters, true},
		{1, 0, 0, false},
		{3, 0, Crosses, true},
		{9, 0, 0, false},
		{2, 1, 0, false},
		{5, 1, 0, false},
		{6, 1, Crosses, true},
		{8, 1, Crosses, true},
		{8, 2, Leaves, true},
		{1, 2, Enters, true},
		{7, 3, Crosses, true},
		{16, 0, 0, false},
		{1 << 63, 3, 0, false},
		{5, 4, 0, false},
		{5, -1, 0, false},
		{5, math.MaxInt, 0, false},
	} {
		if sign, ok := Sign(s, c.set, c.event); sign != c.sign || ok != c.ok {
			t.Errorf("Sign(%d, %d) is %d %t", c.set, c.event, sign, ok)
		}
	}
	if !Is(s, 0) || !Is(s, 15) || Is(s, 1) || Is(s, 5) || Is(s, 16) || Is(s, math.MaxUint64) {
		t.Error("Is")
	}
	if len(Pre(s, 5)) != 0 || len(Post(s, 5)) != 0 || len(Pre(s, 15)) != 0 || len(Post(s, 0)) != 0 {
		t.Error("events of a set that is no region, or a trivial one")
	}
}

func TestErrors(t *testing.T) {
	invalid := made(2, 1, [3]int{0, 0, 1}, [3]int{0, 0, 1})
	for i, c := range []struct {
		s api.System
		e api.Errno
	}{
		{api.System{}, api.ErrState},
		{invalid, api.ErrState},
		{made(201, 0), api.ErrState},
		{made(12, 1, [3]int{0, 1, 1}), api.ErrState},
		{made(13, 0), api.ErrSize},
		{made(200, 0), api.ErrSize},
		{made(12, 0), api.ErrLimit},
		{made(10, 3), api.ErrLimit},
		{made(9, 0), api.OK},
		{made(1, 1), api.OK},
	} {
		all, e := All(c.s)
		minimal, f := Minimal(c.s)
		if e != c.e || f != c.e || e != api.OK && len(all)+len(minimal) != 0 {
			t.Errorf("case %d: %v %d %v %d", i, all, e, minimal, f)
		}
	}
	if sign, ok := Sign(invalid, 1, 0); sign != 0 || ok || Is(invalid, 0) || len(Pre(invalid, 1)) != 0 || len(Post(invalid, 2)) != 0 {
		t.Error("a system that is not valid")
	}
	if all, _ := All(made(9, 0)); len(all) != api.MaxRegions {
		t.Error("as many regions as possible", len(all))
	}
	if all, e := All(made(1, 1, [3]int{0, 0, 0})); !slices.Equal(all, []uint64{0, 1}) || e != api.OK {
		t.Error("one state", all, e)
	}
	if minimal, e := Minimal(made(1, 0)); len(minimal) != 0 || e != api.OK {
		t.Error("one state", minimal, e)
	}
}

func TestManyStates(t *testing.T) {
	s := made(64, 1, [3]int{62, 0, 63})
	if sign, ok := Sign(s, 1<<63, 0); sign != Enters || !ok || !Is(s, 1<<62) || !Is(s, math.MaxUint64) || !slices.Equal(Pre(s, 1<<62), []int{0}) {
		t.Error("64 states", sign, ok)
	}
	s.States = 65
	if sign, ok := Sign(s, 1<<63, 0); sign != 0 || ok || Is(s, 0) || len(Pre(s, 1<<62)) != 0 || len(Post(s, 1<<63)) != 0 {
		t.Error("65 states", sign, ok)
	}
}

// signs returns the signs of all arcs of an event, each once.
func signs(s api.System, set uint64, event int) []int {
	var list []int
	for _, a := range s.Arcs {
		if a.Trans == event {
			list = append(list, int(set>>a.To&1)-int(set>>a.From&1))
		}
	}
	slices.Sort(list)
	return slices.Compact(list)
}

func isRegionByArcs(s api.System, set uint64) bool {
	for event := range s.Events {
		if len(signs(s, set, event)) > 1 {
			return false
		}
	}
	return true
}

// random returns a valid system.
func random(r *rand.Rand) api.System {
	s := made(1+r.Intn(7), r.Intn(4))
	for from := range s.States {
		for event := range s.Events {
			for to := range s.States {
				if r.Intn(2+s.States) == 0 {
					s.Arcs = append(s.Arcs, api.Edge{From: from, Trans: event, To: to})
				}
			}
		}
	}
	return s
}

func TestRandomSystems(t *testing.T) {
	r := rand.New(rand.NewSource(46))
	nontrivial := 0
	for range 500 {
		s := random(r)
		var regions []uint64
		for set := range uint64(1) << s.States {
			region := isRegionByArcs(s, set)
			if Is(s, set) != region {
				t.Fatal("Is", s, set)
			}
			var pre, post []int
			for event := range s.Events {
				list := signs(s, set, event)
				sign, ok := Sign(s, set, event)
				if ok != (len(list) < 2) || ok && len(list) == 1 && sign != list[0] || (!ok || len(list) == 0) && sign != 0 {
					t.Fatal("Sign", s, set, event, sign, ok)
				}
				if region && sign == Leaves {
					pre = append(pre, event)
				}
				if region && sign == Enters {
					post = append(post, event)
				}
			}
			if !slices.Equal(Pre(s, set), pre) || !slices.Equal(Post(s, set), post) {
				t.Fatal("Pre, Post", s, set)
			}
			if region {
				regions = append(regions, set)
				checkComplement(t, s, set, pre, post)
			}
		}
		if l, e := All(s); !slices.Equal(l, regions) || e != api.OK {
			t.Fatal("All", s, l, e)
		}
		nontrivial += len(regions) - 2
		checkMinimal(t, s, regions)
	}
	if nontrivial < 500 {
		t.Error("too few regions", nontrivial)
	}
}

func checkComplement(t *testing.T, s api.System, set uint64, pre, post []int) {
	t.Helper()
	complement := bitset.All(s.States) &^ set
	if !Is(s, complement) || !slices.Equal(Pre(s, complement), post) || !slices.Equal(Post(s, complement), pre) {
		t.Fatal("complement", s, set)
	}
}

// checkMinimal compares Minimal with the regions, and checks what is said of unions and differences of regions.
func checkMinimal(t *testing.T, s api.System, regions []uint64) {
	t.Helper()
	all := bitset.All(s.States)
	var want []uint64
	for _, x := range regions {
		for _, y := range regions {
			if x&y == 0 && !Is(s, x|y) || x&^y == 0 && !Is(s, y&^x) {
				t.Fatal("union, difference", s, x, y)
			}
		}
		smaller := func(y uint64) bool { return y != 0 && y != x && y&^x == 0 }
		if x != 0 && x != all && !slices.ContainsFunc(regions, smaller) {
			want = append(want, x)
		}
	}
	slices.SortFunc(want, func(a, b uint64) int {
		if c := bits.OnesCount64(a) - bits.OnesCount64(b); c != 0 {
			return c
		}
		return int(a) - int(b)
	})
	minimal, e := Minimal(s)
	if !slices.Equal(minimal, want) || e != api.OK {
		t.Fatal("Minimal", s, minimal, want)
	}
	for _, x := range regions {
		if x != all && !isUnion(x, minimal) {
			t.Fatal("no union of minimal regions", s, x)
		}
	}
}

// isUnion reports whether the set is a union of disjoint elements of the list.
func isUnion(set uint64, list []uint64) bool {
	return set == 0 || slices.ContainsFunc(list, func(x uint64) bool { return x&^set == 0 && isUnion(set&^x, list) })
}

func TestMostArcs(t *testing.T) {
	s := made(12, 24)
	for i := range s.Events {
		s.Events[i] = "e" + strconv.Itoa(i)
	}
	for from := range 12 {
		for event := range 24 {
			for to := range 12 {
				s.Arcs = append(s.Arcs, api.Edge{From: from, Trans: event, To: to})
			}
		}
	}
	if l, e := All(s); !slices.Equal(l, []uint64{0, 1<<12 - 1}) || e != api.OK {
		t.Error(l, e)
	}
}
