package siphon

import (
	"math"
	"math/bits"
	"slices"
	"testing"

	"petrinet/api"
	"petrinet/bitset"
	"petrinet/firing"
	"petrinet/net"
	"petrinet/nettest"
)

var arcs = nettest.Ones

var made = nettest.Ordinary

func cycle() api.Net {
	return made(2, [2][]int{{0}, {1}}, [2][]int{{1}, {0}})
}

func TestExamples(t *testing.T) {
	for _, c := range []struct {
		n              api.Net
		siphons, traps []uint64
	}{
		{cycle(), []uint64{3}, []uint64{3}},
		{made(1), []uint64{1}, []uint64{1}},
		{made(3), []uint64{1, 2, 4}, []uint64{1, 2, 4}},
		{made(2, [2][]int{{0}, {1}}), []uint64{1}, []uint64{2}},
		{made(1, [2][]int{{}, {0}}), nil, []uint64{1}},
		{made(1, [2][]int{{0}, {}}), []uint64{1}, nil},
		{made(3, [2][]int{{0, 1}, {2}}, [2][]int{{2}, {0, 1}}), []uint64{5, 6}, []uint64{5, 6}},
		{made(4, [2][]int{{0}, {1, 2, 3}}, [2][]int{{1, 2}, {0}}, [2][]int{{3}, {3}}), []uint64{3, 5}, []uint64{8, 3, 5}},
	} {
		siphons, e := Siphons(c.n)
		traps, f := Traps(c.n)
		if !slices.Equal(siphons, c.siphons) || !slices.Equal(traps, c.traps) || e != api.OK || f != api.OK {
			t.Error(c.n, siphons, traps, e, f)
		}
	}
}

func TestSetsThatAreNone(t *testing.T) {
	n := made(3, [2][]int{{0}, {1}})
	for _, set := range []uint64{8, 9, 1 << 63, math.MaxUint64} {
		if Siphon(n, set) || Trap(n, set) {
			t.Error("a set with a number that is no place", set)
		}
	}
	if !Siphon(n, 0) || !Trap(n, 0) || !Siphon(n, 5) || Siphon(n, 2) || !Trap(n, 6) || Trap(n, 1) {
		t.Error("Siphon, Trap")
	}
	if MaxSiphon(n, math.MaxUint64) != 7 || MaxTrap(n, math.MaxUint64) != 7 || MaxSiphon(n, 6) != 4 || MaxTrap(n, 1<<40|5) != 4 || MaxSiphon(n, 0) != 0 {
		t.Error("MaxSiphon, MaxTrap")
	}
}

func TestErrors(t *testing.T) {
	broken := made(2, [2][]int{{0, 0}, {}})
	if Siphon(broken, 0) || Trap(broken, 0) || MaxSiphon(broken, 3) != 0 || MaxTrap(broken, 3) != 0 {
		t.Error("a net that is not valid")
	}
	large := made(13)
	for _, c := range []struct {
		n api.Net
		e api.Errno
	}{{broken, api.ErrOrder}, {api.Net{}, api.ErrName}, {large, api.ErrSize}, {made(24), api.ErrSize}} {
		siphons, e := Siphons(c.n)
		traps, f := Traps(c.n)
		ok, g := Commoner(c.n)
		if len(siphons) != 0 || len(traps) != 0 || ok || e != c.e || f != c.e || g != c.e {
			t.Error(c.n, e, f, g)
		}
	}
	// There is no such limit for single sets.
	if !Siphon(large, 1<<12) || MaxTrap(large, math.MaxUint64) != 1<<13-1 {
		t.Error("13 places")
	}
	if l, e := Siphons(made(12)); len(l) != 12 || e != api.OK {
		t.Error("12 places", l, e)
	}
}

func TestMarked(t *testing.T) {
	for _, c := range []struct {
		set  uint64
		m    []int
		want bool
	}{
		{0, []int{1}, false},
		{1, nil, false},
		{1, []int{1}, true},
		{1, []int{0, 5}, false},
		{6, []int{9, 0, 1}, true},
		{6, []int{9, 0, 0, 9}, false},
		{6, []int{9, -1, math.MinInt}, false},
		{1 << 63, make([]int, 63), false},
		{1 << 63, append(make([]int, 63), 2), true},
		{1, make([]int, 100), false},
	} {
		if Marked(c.set, c.m) != c.want {
			t.Error(c)
		}
	}
}

func TestCommoner(t *testing.T) {
	n := cycle()
	if ok, e := Commoner(n); ok || e != api.OK {
		t.Error("a cycle without tokens", ok, e)
	}
	n.Places[1].Init = 1
	if ok, e := Commoner(n); !ok || e != api.OK {
		t.Error("a cycle with a token", ok, e)
	}
	// The siphon of the first place contains no trap, whatever its tokens are.
	n = made(2, [2][]int{{0}, {1}})
	n.Places[0].Init = 5
	if ok, e := Commoner(n); ok || e != api.OK {
		t.Error("a siphon without a trap", ok, e)
	}
	if ok, e := Commoner(made(1, [2][]int{{}, {0}})); !ok || e != api.OK {
		t.Error("a net without siphons", ok, e)
	}
}

// isSiphon follows the definition; reversed, it is that of traps.
func isSiphon(n api.Net, set uint64, reversed bool) bool {
	for t := range n.Trans {
		trigger, needed := net.Outputs(n, t), net.Inputs(n, t)
		if reversed {
			trigger, needed = needed, trigger
		}
		in := func(p int) bool { return bitset.Has(set, p) }
		if slices.ContainsFunc(trigger, in) && !slices.ContainsFunc(needed, in) {
			return false
		}
	}
	return true
}

// bruteMinimal returns the minimal nonempty sets of a list.
func bruteMinimal(sets []uint64) []uint64 {
	var minimal []uint64
	for _, s := range sets {
		if s != 0 && !slices.ContainsFunc(sets, func(x uint64) bool { return x != 0 && x != s && x&^s == 0 }) {
			minimal = append(minimal, s)
		}
	}
	slices.SortFunc(minimal, func(a, b uint64) int {
		if c := bits.OnesCount64(a) - bits.OnesCount64(b); c != 0 {
			return c
		}
		return int(a) - int(b)
	})
	return minimal
}

func TestRandomNets(t *testing.T) {
	for seed := range uint64(400) {
		n := nettest.Random(seed, nettest.Shape{Places: 6, Trans: 5, Tokens: 1, Weight: 2, Cap: 1 + int(seed%2), Inh: 2, Prio: 1})
		all := uint64(1) << len(n.Places)
		var siphons, traps []uint64
		for set := range all {
			if isSiphon(n, set, false) {
				siphons = append(siphons, set)
			}
			if isSiphon(n, set, true) {
				traps = append(traps, set)
			}
			if Siphon(n, set) != isSiphon(n, set, false) || Trap(n, set) != isSiphon(n, set, true) {
				t.Fatal(n, set)
			}
		}
		union := func(sets []uint64, within uint64) uint64 {
			var u uint64
			for _, s := range sets {
				if s&^within == 0 {
					u |= s
				}
			}
			return u
		}
		for within := range all {
			if MaxSiphon(n, within) != union(siphons, within) || MaxTrap(n, within|1<<30) != union(traps, within) {
				t.Fatal(n, within)
			}
		}
		minimal, e := Siphons(n)
		if !slices.Equal(minimal, bruteMinimal(siphons)) || e != api.OK {
			t.Fatal(n, minimal)
		}
		if l, e := Traps(n); !slices.Equal(l, bruteMinimal(traps)) || e != api.OK {
			t.Fatal(n, l)
		}
		commoner := !slices.ContainsFunc(minimal, func(s uint64) bool { return !Marked(union(traps, s), net.Initial(n)) })
		if ok, e := Commoner(n); ok != commoner || e != api.OK {
			t.Fatal(n, ok, e)
		}
		checkUnions(t, n, siphons, traps)
	}
}

// checkUnions checks that unions of siphons are siphons, and unions of traps traps.
func checkUnions(t *testing.T, n api.Net, siphons, traps []uint64) {
	t.Helper()
	for _, a := range siphons {
		for _, b := range siphons {
			if !Siphon(n, a|b) {
				t.Fatal(n, a, b)
			}
		}
	}
	for _, a := range traps {
		for _, b := range traps {
			if !Trap(n, a|b) {
				t.Fatal(n, a, b)
			}
		}
	}
}

func TestFiring(t *testing.T) {
	dead := 0
	for seed := range uint64(400) {
		n := nettest.Random(seed, nettest.Shape{Places: 5, Trans: 5, Tokens: 1, Weight: 1 + int(seed%2)})
		markings, _ := nettest.Reachable(n, 60)
		for _, m := range markings {
			for _, i := range firing.List(n, m) {
				after, _ := firing.Fire(n, m, i)
				for set := range uint64(1) << len(n.Places) {
					if Siphon(n, set) && !Marked(set, m) && Marked(set, after) {
						t.Fatal("an empty siphon gets tokens", n, m, i, set)
					}
					if net.Ordinary(n) && Trap(n, set) && Marked(set, m) && !Marked(set, after) {
						t.Fatal("a trap loses its tokens", n, m, i, set)
					}
				}
			}
			if net.Ordinary(n) && firing.Dead(n, m) && !slices.ContainsFunc(n.Trans, func(x api.Trans) bool { return len(x.Pre) == 0 }) {
				dead++
				var empty uint64
				for p, tokens := range m {
					if tokens == 0 {
						empty = bitset.With(empty, p)
					}
				}
				if !Siphon(n, empty) {
					t.Fatal("the empty places of a dead marking are no siphon", n, m)
				}
			}
		}
	}
	if dead < 50 {
		t.Error("too few dead markings", dead)
	}
}
