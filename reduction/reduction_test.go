package reduction

import (
	"math"
	"slices"
	"testing"

	"petrinet/api"
	"petrinet/firing"
	"petrinet/karpmiller"
	"petrinet/marking"
	"petrinet/net"
	"petrinet/nettest"
)

var arcs = nettest.Arcs

// places returns places with the given tokens, named a, b and so on.
func places(tokens ...int) []api.Place {
	var list []api.Place
	for i, k := range tokens {
		list = append(list, api.Place{Name: string(rune('a' + i)), Init: k})
	}
	return list
}

func made(tokens []int, trans ...api.Trans) api.Net {
	for i := range trans {
		trans[i].Name = string(rune('t' + i))
	}
	return api.Net{Name: "n", Places: places(tokens...), Trans: trans}
}

func isZero(n api.Net) bool {
	return n.Name == "" && len(n.Places) == 0 && len(n.Trans) == 0
}

func TestRules(t *testing.T) {
	type trans = api.Trans
	for i, c := range []struct {
		n    api.Net
		want []Rule
	}{
		{made([]int{1}), nil},
		{made([]int{1, 0}), []Rule{{SamePlace, 0, 1}, {LoopPlace, 0, 0}, {LoopPlace, 1, 0}}},
		{made([]int{0}, trans{Post: arcs(0, 1)}, trans{Post: arcs(0, 1)}, trans{Post: arcs(0, 1)}), []Rule{{SameTrans, 0, 1}, {SameTrans, 0, 2}, {SameTrans, 1, 2}}},
		{made([]int{0}, trans{Post: arcs(0, 1)}, trans{Post: arcs(0, 2)}, trans{Pre: arcs(0, 1)}), nil},
		{made([]int{0, 5}, trans{Pre: arcs(0, 1, 1, 1)}), []Rule{{SamePlace, 0, 1}}},
		{made([]int{0, 5}, trans{Pre: arcs(0, 1, 1, 2)}), nil},
		{made([]int{0, 5}, trans{Post: arcs(0, 1, 1, 1)}), []Rule{{SamePlace, 0, 1}}},
		// A loop needs its tokens at the start.
		{made([]int{0, 2}, trans{Pre: arcs(0, 1, 1, 2), Post: arcs(1, 2)}), []Rule{{LoopPlace, 1, 0}}},
		{made([]int{0, 1}, trans{Pre: arcs(0, 1, 1, 2), Post: arcs(1, 2)}), nil},
		{made([]int{0, 3}, trans{Pre: arcs(0, 1, 1, 2), Post: arcs(1, 3)}), nil},
		{made([]int{2}, trans{Pre: arcs(0, 2), Post: arcs(0, 2)}), nil},
		// The second transition follows the first one, which has several output places.
		{made([]int{1, 0, 0, 0}, trans{Pre: arcs(0, 1), Post: arcs(1, 1, 2, 2)}, trans{Pre: arcs(1, 1), Post: arcs(2, 1, 3, 5)}), []Rule{{FuseTrans, 0, 1}}},
		{made([]int{1, 1, 0, 0}, trans{Pre: arcs(0, 1), Post: arcs(1, 1, 2, 2)}, trans{Pre: arcs(1, 1), Post: arcs(2, 1, 3, 5)}), nil},
		{made([]int{1, 0, 0}, trans{Pre: arcs(0, 1), Post: arcs(1, 1, 2, 2)}, trans{Pre: arcs(1, 1)}), nil},
		{made([]int{1, 0, 0}, trans{Pre: arcs(0, 1), Post: arcs(1, 2)}, trans{Pre: arcs(1, 1), Post: arcs(2, 2)}), nil},
		{made([]int{1, 0, 0}, trans{Pre: arcs(0, 1), Post: arcs(1, 1)}, trans{Pre: arcs(1, 2), Post: arcs(2, 2)}), nil},
		{made([]int{2, 0, 0}, trans{Pre: arcs(0, 1), Post: arcs(1, 1)}, trans{Pre: arcs(1, 1, 2, 1), Post: arcs(0, 2)}), []Rule{{FusePlace, 0, 1}}},
		{made([]int{2, 0, 0}, trans{Pre: arcs(0, 2), Post: arcs(1, 1)}, trans{Pre: arcs(1, 1), Post: arcs(2, 2)}, trans{Post: arcs(1, 1)}), nil},
		{made([]int{2, 0, 0}, trans{Pre: arcs(0, 2), Post: arcs(1, 1)}, trans{Pre: arcs(1, 1), Post: arcs(2, 2)}, trans{Pre: arcs(1, 1)}), nil},
		{made([]int{0}, trans{Pre: arcs(0, 1), Post: arcs(0, 1)}), nil},
		// A transition that only moves tokens from c to a.
		{made([]int{1, 1, 7}, trans{Pre: arcs(2, 1), Post: arcs(0, 1)}, trans{Pre: arcs(0, 1, 1, 1), Post: arcs(2, 3)}), []Rule{{FusePlace, 2, 0}}},
		{made([]int{1, 1, 7}, trans{Pre: arcs(2, 1), Post: arcs(0, 2)}, trans{Pre: arcs(0, 1, 1, 1), Post: arcs(2, 3)}), nil},
		{made([]int{1, 1, 7}, trans{Pre: arcs(2, 2), Post: arcs(0, 1)}, trans{Pre: arcs(0, 1, 1, 1), Post: arcs(2, 3)}), nil},
		{made([]int{1, 1, 7}, trans{Pre: arcs(2, 1), Post: arcs(0, 1)}, trans{Pre: arcs(0, 1, 1, 1)}), nil},
		{made([]int{1, 1, 7}, trans{Pre: arcs(2, 1), Post: arcs(0, 1)}, trans{Pre: arcs(0, 1, 2, 1), Post: arcs(1, 3, 2, 2)}), nil},
		{made([]int{1, 0}, trans{Pre: arcs(0, 1), Post: arcs(1, 1)}), nil},
		// A cycle has several rules.
		{made([]int{1, 0}, trans{Pre: arcs(0, 1), Post: arcs(1, 1)}, trans{Pre: arcs(1, 1), Post: arcs(0, 1)}), []Rule{{FuseTrans, 0, 1}, {FusePlace, 0, 1}, {FusePlace, 1, 0}}},
		{made([]int{0, 0}, trans{Pre: arcs(0, 1), Post: arcs(1, 1)}, trans{Pre: arcs(1, 1), Post: arcs(0, 1)}), []Rule{{FuseTrans, 0, 1}, {FuseTrans, 1, 0}, {FusePlace, 0, 1}, {FusePlace, 1, 0}}},
	} {
		if l := All(c.n); !slices.Equal(l, c.want) {
			t.Errorf("case %d: %v, want %v", i, l, c.want)
		}
		r, ok := Find(c.n)
		if ok != (len(c.want) > 0) || ok && r != c.want[0] || !ok && r != (Rule{}) {
			t.Errorf("case %d: Find %v %t", i, r, ok)
		}
	}
}

func TestApply(t *testing.T) {
	type trans = api.Trans
	named := func(name string, t trans) trans { t.Name = name; return t }
	n := made([]int{1, 4, 4, 9}, trans{Pre: arcs(1, 1, 2, 1), Post: arcs(0, 1, 3, 2)}, trans{Pre: arcs(0, 1, 3, 1)})
	for i, c := range []struct {
		n    api.Net
		r    Rule
		want api.Net
	}{
		{n, Rule{SamePlace, 1, 2}, api.Net{Name: "n", Places: []api.Place{{Name: "a", Init: 1}, {Name: "b", Init: 4}, {Name: "d", Init: 9}}, Trans: []trans{{Name: "t", Pre: arcs(1, 1), Post: arcs(0, 1, 2, 2)}, {Name: "u", Pre: arcs(0, 1, 2, 1)}}}},
		{made([]int{5, 3}, trans{Post: arcs(0, 1, 1, 1)}), Rule{SamePlace, 0, 1}, api.Net{Name: "n", Places: []api.Place{{Name: "b", Init: 3}}, Trans: []trans{{Name: "t", Post: arcs(0, 1)}}}},
		{made([]int{3, 5}, trans{Post: arcs(0, 1, 1, 1)}), Rule{SamePlace, 0, 1}, api.Net{Name: "n", Places: []api.Place{{Name: "a", Init: 3}}, Trans: []trans{{Name: "t", Post: arcs(0, 1)}}}},
		{made([]int{3}, trans{Pre: arcs(0, 1)}, trans{Pre: arcs(0, 2)}, trans{Pre: arcs(0, 1)}), Rule{SameTrans, 0, 2}, api.Net{Name: "n", Places: places(3), Trans: []trans{{Name: "t", Pre: arcs(0, 1)}, {Name: "u", Pre: arcs(0, 2)}}}},
		{made([]int{2, 1, 0}, trans{Pre: arcs(0, 2, 1, 1), Post: arcs(0, 2, 2, 1)}), Rule{LoopPlace, 0, 0}, api.Net{Name: "n", Places: []api.Place{{Name: "b", Init: 1}, {Name: "c"}}, Trans: []trans{{Name: "t", Pre: arcs(0, 1), Post: arcs(1, 1)}}}},
		{made([]int{1, 0, 0, 0}, trans{Pre: arcs(0, 1), Post: arcs(1, 1, 2, 2)}, trans{Pre: arcs(1, 1), Post: arcs(2, 1, 3, 5)}, trans{Pre: arcs(3, 1)}), Rule{FuseTrans, 0, 1}, api.Net{Name: "n", Places: []api.Place{{Name: "a", Init: 1}, {Name: "c"}, {Name: "d"}}, Trans: []trans{{Name: "t", Pre: arcs(0, 1), Post: arcs(1, 3, 2, 5)}, named("v", trans{Pre: arcs(2, 1)})}}},
		{made([]int{0, 0}, trans{Pre: arcs(0, 1), Post: arcs(1, 1)}, trans{Pre: arcs(1, 1), Post: arcs(0, 1)}), Rule{FuseTrans, 1, 0}, api.Net{Name: "n", Places: []api.Place{{Name: "b"}}, Trans: []trans{named("u", trans{Pre: arcs(0, 1), Post: arcs(0, 1)})}}},
		{made([]int{1, 2, 7}, trans{Pre: arcs(2, 1), Post: arcs(0, 1)}, trans{Pre: arcs(0, 1, 1, 1), Post: arcs(0, 2, 2, 3)}), Rule{FusePlace, 2, 0}, api.Net{Name: "n", Places: places(8, 2), Trans: []trans{named("u", trans{Pre: arcs(0, 1, 1, 1), Post: arcs(0, 5)})}}},
		{made([]int{1, 2, 7}, trans{Pre: arcs(1, 1), Post: arcs(2, 1)}, trans{Pre: arcs(2, 4), Post: arcs(0, 1, 1, 2)}), Rule{FusePlace, 1, 2}, api.Net{Name: "n", Places: places(1, 9), Trans: []trans{named("u", trans{Pre: arcs(1, 4), Post: arcs(0, 1, 1, 2)})}}},
	} {
		if got, e := Apply(c.n, c.r); e != api.OK || !net.Same(got, c.want) {
			t.Errorf("case %d: %v %d, want %v", i, got, e, c.want)
		}
	}
}

func TestApplyErrors(t *testing.T) {
	type trans = api.Trans
	loop := made([]int{1, 0}, trans{Pre: arcs(1, 1), Post: arcs(0, 1)}, trans{Pre: arcs(0, 1), Post: arcs(0, 1, 1, 1)})
	heavy := func(w int) api.Net {
		return made([]int{1, 0, 0}, trans{Pre: arcs(0, 1), Post: arcs(1, 1, 2, 60)}, trans{Pre: arcs(1, 1), Post: arcs(2, w)})
	}
	// The places b and c become one, which gets the sum of their tokens, and of the weights 50 and w.
	moved := func(w, init int) api.Net {
		return made([]int{1, api.MaxTokens - 1, init}, trans{Pre: arcs(2, 1), Post: arcs(1, 1)}, trans{Pre: arcs(0, 1, 1, w), Post: arcs(0, 1, 1, w, 2, 50)})
	}
	for i, c := range []struct {
		n api.Net
		r Rule
		e api.Errno
	}{
		{api.Net{}, Rule{}, api.ErrName},
		{made([]int{1, 0}, trans{Prio: 1}), Rule{SamePlace, 0, 1}, api.ErrKind},
		{loop, Rule{}, api.ErrNone},
		{loop, Rule{SamePlace, 0, 1}, api.ErrNone},
		{loop, Rule{FusePlace, 1, 0}, api.OK},
		{loop, Rule{FusePlace, 0, 1}, api.ErrNone},
		{made([]int{1, 1}), Rule{LoopPlace, 0, 0}, api.OK},
		{made([]int{1, 1}), Rule{LoopPlace, 0, 1}, api.ErrNone},
		{made([]int{1, 1}), Rule{SamePlace, 1, 0}, api.ErrNone},
		{made([]int{1, 1}), Rule{SamePlace, 0, 0}, api.ErrNone},
		{made([]int{1, 1}), Rule{0, 0, 1}, api.ErrNone},
		{made([]int{1, 1}), Rule{6, 0, 1}, api.ErrNone},
		{made([]int{1, 1}), Rule{SamePlace, -1, 1}, api.ErrNone},
		{made([]int{1, 1}), Rule{SameTrans, 0, math.MaxInt}, api.ErrNone},
		{heavy(39), Rule{FuseTrans, 0, 1}, api.OK},
		{heavy(40), Rule{FuseTrans, 0, 1}, api.ErrWeight},
		{moved(49, 1), Rule{FusePlace, 2, 1}, api.OK},
		{moved(49, 2), Rule{FusePlace, 2, 1}, api.ErrOver},
		{moved(50, 1), Rule{FusePlace, 2, 1}, api.ErrWeight},
		{moved(50, 2), Rule{FusePlace, 2, 1}, api.ErrWeight},
	} {
		if got, e := Apply(c.n, c.r); e != c.e || e != api.OK && !isZero(got) {
			t.Errorf("case %d: %v %d, want %d", i, got, e, c.e)
		}
	}
}

func TestReduce(t *testing.T) {
	type trans = api.Trans
	cycle := made([]int{1, 0}, trans{Pre: arcs(0, 1), Post: arcs(1, 1)}, trans{Pre: arcs(1, 1), Post: arcs(0, 1)})
	n, rules, e := Reduce(cycle)
	want := api.Net{Name: "n", Places: places(1), Trans: []trans{{Name: "t", Pre: arcs(0, 1), Post: arcs(0, 1)}}}
	if e != api.OK || !net.Same(n, want) || !slices.Equal(rules, []Rule{{FuseTrans, 0, 1}}) {
		t.Error(n, rules, e)
	}
	if n, rules, e := Reduce(want); e != api.OK || !net.Same(n, want) || len(rules) != 0 {
		t.Error(n, rules, e)
	}
	// The first rule cannot be applied, as a weight would be too great, and ends the reduction.
	stuck := made([]int{1, 0, 0, 0}, trans{Pre: arcs(0, 1), Post: arcs(1, 1, 2, 60)}, trans{Pre: arcs(1, 1), Post: arcs(2, 60)}, trans{Pre: arcs(2, 1), Post: arcs(3, 1)})
	if n, rules, e := Reduce(stuck); e != api.OK || !net.Same(n, stuck) || len(rules) != 0 || len(All(stuck)) < 2 {
		t.Error(n, rules, e, All(stuck))
	}
	for _, c := range []struct {
		n api.Net
		e api.Errno
	}{{api.Net{}, api.ErrName}, {made([]int{1, 1}, trans{Inh: arcs(0, 1)}), api.ErrKind}} {
		if n, rules, e := Reduce(c.n); !isZero(n) || len(rules) != 0 || e != c.e {
			t.Error(n, rules, e)
		}
		if r, ok := Find(c.n); len(All(c.n)) != 0 || ok || r != (Rule{}) {
			t.Error("rules of a net that is not plain")
		}
	}
	same, _, _ := Reduce(want)
	same.Trans[0].Pre[0].W = 5
	same.Places[0].Init = 7
	if want.Trans[0].Pre[0].W != 1 || want.Places[0].Init != 1 {
		t.Error("the result shares memory with the argument")
	}
}

// behavior is what rules preserve; it is known if the state graph or the coverability tree is not too large.
type behavior struct {
	known, bounded, live bool
}

func behaviorOf(n api.Net) behavior {
	tree, ok, e := karpmiller.Tree(n, 2000)
	if !ok || e != api.OK {
		return behavior{}
	}
	if len(karpmiller.Unbounded(tree)) > 0 {
		return behavior{known: true}
	}
	markings, all := nettest.Reachable(n, 2000)
	return behavior{all, true, all && live(n, markings)}
}

// live reports whether every transition may fire again after every reachable marking.
func live(n api.Net, markings [][]int) bool {
	index := map[string]int{}
	for i, m := range markings {
		index[marking.Text(m)] = i
	}
	for t := range n.Trans {
		again := make([]bool, len(markings))
		for changed := true; changed; {
			changed = false
			for i, m := range markings {
				if again[i] {
					continue
				}
				for _, u := range firing.List(n, m) {
					after, _ := firing.Fire(n, m, u)
					if u == t || again[index[marking.Text(after)]] {
						again[i], changed = true, true
					}
				}
			}
		}
		if slices.Contains(again, false) {
			return false
		}
	}
	return true
}

func TestRulesPreserveBehavior(t *testing.T) {
	counts := map[int]int{}
	alive := 0
	for seed := range uint64(3000) {
		n := nettest.Random(seed, nettest.Shape{Places: 4, Trans: 4, Tokens: 1, Weight: 1 + int(seed%3)/2})
		rules := All(n)
		if !slices.IsSortedFunc(rules, compare) {
			t.Fatal("the order of rules", n, rules)
		}
		if len(rules) == 0 {
			continue
		}
		before := behaviorOf(n)
		for _, r := range rules {
			after, e := Apply(n, r)
			if e != api.OK {
				t.Fatal(n, r, e)
			}
			if net.Check(after) != (api.Fault{}) || len(after.Places)+len(after.Trans) >= len(n.Places)+len(n.Trans) {
				t.Fatal(n, r, after)
			}
			if b := behaviorOf(after); before.known && b.known && b != before {
				t.Fatal("the rule changes the behavior", n, r, after, before, b)
			}
			counts[r.Kind]++
		}
		if before.live {
			alive++
		}
		checkReduce(t, n)
	}
	if len(counts) != 5 || slices.Min([]int{counts[1], counts[2], counts[3], counts[4], counts[5]}) < 30 || alive < 30 {
		t.Error("too few rules", counts, alive)
	}
}

func compare(a, b Rule) int {
	return slices.Compare([]int{a.Kind, a.A, a.B}, []int{b.Kind, b.A, b.B})
}

// checkReduce compares Reduce with Find and Apply.
func checkReduce(t *testing.T, n api.Net) {
	t.Helper()
	last, rules, e := Reduce(n)
	want := n
	for _, r := range rules {
		first, ok := Find(want)
		if !ok || first != r {
			t.Fatal("Find", n, rules)
		}
		want, _ = Apply(want, r)
	}
	if e != api.OK || !net.Same(last, want) {
		t.Fatal("Reduce", n, last, rules)
	}
	if r, ok := Find(last); ok {
		if _, e := Apply(last, r); e == api.OK {
			t.Fatal("Reduce stops early", n, last)
		}
	}
}

// weightsAt returns the weights of a transition to a place in Pre and Post.
func weightsAt(n api.Net, t, p int) [2]int {
	return [2]int{net.Pre(n, t, p), net.Post(n, t, p)}
}

func TestRulesOfRandomNets(t *testing.T) {
	for seed := range uint64(1500) {
		n := nettest.Random(seed, nettest.Shape{Places: 4, Trans: 4, Tokens: 1, Weight: 1 + int(seed%3)/2})
		var want []Rule
		for a := range n.Places {
			for b := a + 1; b < len(n.Places); b++ {
				if samePlaces(n, a, b) {
					want = append(want, Rule{SamePlace, a, b})
				}
			}
		}
		for a := range n.Trans {
			for b := a + 1; b < len(n.Trans); b++ {
				if slices.Equal(n.Trans[a].Pre, n.Trans[b].Pre) && slices.Equal(n.Trans[a].Post, n.Trans[b].Post) {
					want = append(want, Rule{SameTrans, a, b})
				}
			}
		}
		for a := range n.Places {
			if loop(n, a) && len(n.Places) > 1 {
				want = append(want, Rule{LoopPlace, a, 0})
			}
		}
		for a := range n.Trans {
			for b := range n.Trans {
				if fusable(n, a, b) && len(n.Places) > 1 {
					want = append(want, Rule{FuseTrans, a, b})
				}
			}
		}
		for a := range n.Places {
			for b := range n.Places {
				if joinable(n, a, b) && len(n.Trans) > 1 {
					want = append(want, Rule{FusePlace, a, b})
				}
			}
		}
		if l := All(n); !slices.Equal(l, want) {
			t.Fatal(n, l, want)
		}
	}
}

func samePlaces(n api.Net, a, b int) bool {
	for t := range n.Trans {
		if weightsAt(n, t, a) != weightsAt(n, t, b) {
			return false
		}
	}
	return true
}

func loop(n api.Net, p int) bool {
	for t := range n.Trans {
		if w := weightsAt(n, t, p); w[0] != w[1] || w[0] > n.Places[p].Init {
			return false
		}
	}
	return true
}

func fusable(n api.Net, a, b int) bool {
	inputs := net.Inputs(n, b)
	if len(inputs) != 1 || len(net.Outputs(n, b)) == 0 || a == b {
		return false
	}
	p := inputs[0]
	return net.Pre(n, b, p) == 1 && net.Post(n, a, p) == 1 && len(net.Producers(n, p)) == 1 && len(net.Consumers(n, p)) == 1 && n.Places[p].Init == 0 && net.Pre(n, a, p) == 0
}

func joinable(n api.Net, a, b int) bool {
	consumers := net.Consumers(n, a)
	if a == b || len(consumers) != 1 || len(net.Producers(n, a)) == 0 {
		return false
	}
	t := consumers[0]
	return slices.Equal(net.Inputs(n, t), []int{a}) && slices.Equal(net.Outputs(n, t), []int{b}) && weightsAt(n, t, a) == [2]int{1, 0} && weightsAt(n, t, b) == [2]int{0, 1}
}
