package transform

import (
	"math"
	"math/rand"
	"slices"
	"strconv"
	"testing"

	"petrinet/api"
	"petrinet/bitset"
	"petrinet/firing"
	"petrinet/net"
	"petrinet/nettest"
)

var arcs = nettest.Arcs

// sample has a place with a capacity and one without.
func sample() api.Net {
	return api.Net{
		Name:   "n",
		Places: []api.Place{{Name: "p", Init: 1, Cap: 2}, {Name: "q", Init: 5}, {Name: "r", Cap: 7}},
		Trans: []api.Trans{
			{Name: "t", Pre: arcs(0, 1, 1, 2), Post: arcs(0, 2, 2, 3), Inh: arcs(2, 4), Prio: 2},
			{Name: "u", Pre: arcs(0, 2), Inh: arcs(0, 9)},
		},
	}
}

// plain is a plain net.
func plain() api.Net {
	return api.Net{
		Name:   "n",
		Places: []api.Place{{Name: "p", Init: 1}, {Name: "q", Init: 5}},
		Trans:  []api.Trans{{Name: "t", Pre: arcs(0, 1, 1, 2), Post: arcs(1, 3)}, {Name: "u", Post: arcs(0, 4)}, {Name: "v"}},
	}
}

func isZero(n api.Net) bool {
	return n.Name == "" && len(n.Places) == 0 && len(n.Trans) == 0
}

// broken is not valid.
var broken = api.Net{Name: "n"}

func TestComplement(t *testing.T) {
	want := api.Net{
		Name:   "n",
		Places: []api.Place{{Name: "p", Init: 1}, {Name: "q", Init: 5}, {Name: "r"}, {Name: "_0", Init: 1}, {Name: "_2", Init: 7}},
		Trans: []api.Trans{
			// The inhibitor arc asks for 7 - 4 + 1 tokens on the complement of r, of which 3 are consumed.
			{Name: "t", Pre: arcs(0, 1, 1, 2, 3, 1, 4, 4), Post: arcs(0, 2, 2, 3, 4, 1), Prio: 2},
			{Name: "u", Pre: arcs(0, 2), Post: arcs(3, 2)},
		},
	}
	if n, e := Complement(sample()); e != api.OK || !net.Same(n, want) {
		t.Error(n, e)
	}
	if n, e := Complement(plain()); e != api.OK || !net.Same(n, plain()) {
		t.Error("a net without capacities", n, e)
	}
	n, e := Complement(api.Net{Name: "n", Places: []api.Place{{Name: "p", Init: 1, Cap: 2}}})
	if e != api.OK || !net.Same(n, api.Net{Name: "n", Places: []api.Place{{Name: "p", Init: 1}, {Name: "_0", Init: 1}}}) {
		t.Error(n, e)
	}
}

func TestComplementErrors(t *testing.T) {
	for i, c := range []struct {
		change func(n *api.Net)
		e      api.Errno
	}{
		{func(n *api.Net) { n.Trans[1].Name = "p" }, api.ErrTwice},
		{func(n *api.Net) { n.Trans[1].Inh = arcs(1, 1) }, api.ErrKind},
		{func(n *api.Net) { n.Trans[1].Inh, n.Places = arcs(1, 1), many(22) }, api.ErrKind},
		{func(n *api.Net) { n.Places, n.Trans[0].Name = many(22), "_2" }, api.ErrSize},
		{func(n *api.Net) { n.Places = many(21) }, api.OK},
		{func(n *api.Net) { n.Places[1].Name = "_2" }, api.ErrTwice},
		{func(n *api.Net) { n.Trans[1].Name = "_0" }, api.ErrTwice},
		{func(n *api.Net) { n.Trans[1].Name = "_1" }, api.OK},
		{func(n *api.Net) { n.Trans[1].Name, n.Places[0].Cap = "_0", 999 }, api.ErrTwice},
		{func(n *api.Net) { n.Places[2].Cap = 102 }, api.OK},
		{func(n *api.Net) { n.Places[2].Cap = 103 }, api.ErrWeight},
		{func(n *api.Net) { n.Places[2].Cap, n.Trans[0].Post = 102, arcs(0, 2) }, api.OK},
		{func(n *api.Net) { n.Places[2].Cap, n.Trans[0].Post, n.Trans[0].Pre = 102, nil, arcs(2, 1) }, api.ErrWeight},
		{func(n *api.Net) { n.Places[0].Cap = api.MaxTokens }, api.ErrWeight},
		{func(n *api.Net) { n.Places[0].Cap, n.Trans[1].Inh = api.MaxTokens, nil }, api.OK},
		{func(n *api.Net) { n.Trans[0].Post = arcs(0, 99) }, api.OK},
	} {
		n := sample()
		c.change(&n)
		got, e := Complement(n)
		if e != c.e || e != api.OK && !isZero(got) || e == api.OK && net.Check(got) != (api.Fault{}) {
			t.Errorf("case %d: %v %d, want %d", i, got, e, c.e)
		}
		if m, f := Lift(n, nil); len(m) != 0 || c.e != api.OK && f != c.e || c.e == api.OK && f != api.ErrSize {
			t.Errorf("case %d: Lift %v %d", i, m, f)
		}
	}
}

// many returns places of which the first and the third one have a capacity, and also the last one.
func many(k int) []api.Place {
	places := []api.Place{{Name: "p", Init: 1, Cap: 2}, {Name: "q"}, {Name: "r", Cap: 7}}
	for i := 3; i < k; i++ {
		places = append(places, api.Place{Name: "p" + strconv.Itoa(i)})
	}
	places[k-1].Cap = 1
	return places
}

func TestLift(t *testing.T) {
	m := []int{2, 5, 3}
	if l, e := Lift(sample(), m); !slices.Equal(l, []int{2, 5, 3, 0, 4}) || e != api.OK {
		t.Error(l, e)
	}
	for _, c := range []struct {
		m []int
		e api.Errno
	}{
		{nil, api.ErrSize},
		{[]int{0, 0}, api.ErrSize},
		{[]int{9, 0, 0, 0}, api.ErrSize},
		{[]int{9, -1, 0}, api.ErrSize},
		{[]int{9, api.MaxTokens + 1, 0}, api.ErrSize},
		{[]int{3, 0, 0}, api.ErrRange},
		{[]int{0, 0, 8}, api.ErrRange},
	} {
		if l, e := Lift(sample(), c.m); len(l) != 0 || e != c.e {
			t.Error(c.m, l, e)
		}
	}
	l, _ := Lift(plain(), m[:2])
	l[0] = 9
	if m[0] != 2 {
		t.Error("the result shares memory with the argument")
	}
}

func TestComplementBehaves(t *testing.T) {
	r := rand.New(rand.NewSource(12))
	tried := 0
	for seed := range uint64(3000) {
		n := nettest.Random(seed, nettest.Shape{Places: 4, Trans: 5, Tokens: 2, Weight: 3, Cap: 3, Inh: 4, Prio: 1})
		c, e := Complement(n)
		if e != api.OK {
			continue
		}
		tried++
		for range 20 {
			m := make([]int, len(n.Places))
			for p, place := range n.Places {
				m[p] = r.Intn(5)
				if place.Cap != 0 {
					m[p] = r.Intn(place.Cap + 1)
				}
			}
			lifted, e := Lift(n, m)
			if e != api.OK || !slices.Equal(firing.List(n, m), firing.List(c, lifted)) {
				t.Fatal(n, m, lifted, e)
			}
			for _, i := range firing.List(n, m) {
				after, _ := firing.Fire(n, m, i)
				want, _ := Lift(n, after)
				if got, e := firing.Fire(c, lifted, i); e != api.OK || !slices.Equal(got, want) {
					t.Fatal(n, m, i, got, want)
				}
			}
		}
	}
	if tried < 300 {
		t.Error("too few nets have a complement", tried)
	}
}

func TestReverse(t *testing.T) {
	n, e := Reverse(plain())
	want := plain()
	want.Trans = []api.Trans{{Name: "t", Pre: arcs(1, 3), Post: arcs(0, 1, 1, 2)}, {Name: "u", Pre: arcs(0, 4)}, {Name: "v"}}
	if e != api.OK || !net.Same(n, want) {
		t.Error(n, e)
	}
	if back, e := Reverse(n); e != api.OK || !net.Same(back, plain()) {
		t.Error(back, e)
	}
	if n, e := Reverse(sample()); !isZero(n) || e != api.ErrKind {
		t.Error(n, e)
	}
	if n, e := Reverse(broken); !isZero(n) || e != api.ErrSize {
		t.Error(n, e)
	}
}

func TestDual(t *testing.T) {
	n, e := Dual(plain())
	want := api.Net{
		Name:   "n",
		Places: []api.Place{{Name: "t"}, {Name: "u"}, {Name: "v"}},
		Trans:  []api.Trans{{Name: "p", Pre: arcs(1, 4), Post: arcs(0, 1)}, {Name: "q", Pre: arcs(0, 3), Post: arcs(0, 2)}},
	}
	if e != api.OK || !net.Same(n, want) {
		t.Error(n, e)
	}
	if n, e := Dual(api.Net{Name: "n", Places: []api.Place{{Name: "p"}}}); !isZero(n) || e != api.ErrSize {
		t.Error(n, e)
	}
	if n, e := Dual(api.Net{Name: "n", Places: []api.Place{{Name: "p", Cap: 1}}}); !isZero(n) || e != api.ErrKind {
		t.Error(n, e)
	}
	if n, e := Dual(broken); !isZero(n) || e != api.ErrSize {
		t.Error(n, e)
	}
}

func TestReverseDualTwice(t *testing.T) {
	for seed := range uint64(300) {
		n := nettest.Random(seed, nettest.Shape{Places: 6, Trans: 6, Tokens: 3, Weight: 99})
		first, e := Reverse(n)
		second, f := Reverse(first)
		if e != api.OK || f != api.OK || !net.Same(second, n) {
			t.Fatal("Reverse", n)
		}
		if len(n.Trans) == 0 {
			continue
		}
		first, e = Dual(n)
		second, f = Dual(first)
		for p := range n.Places {
			n.Places[p].Init = 0
		}
		if e != api.OK || f != api.OK || !net.Same(second, n) {
			t.Fatal("Dual", n)
		}
	}
}

func TestSubnet(t *testing.T) {
	n, e := Subnet(sample(), bitset.Of(0, 2, 3, 63), bitset.Of(0, 2, 63))
	want := api.Net{
		Name:   "n",
		Places: []api.Place{{Name: "p", Init: 1, Cap: 2}, {Name: "r", Cap: 7}},
		Trans:  []api.Trans{{Name: "t", Pre: arcs(0, 1), Post: arcs(0, 2, 1, 3), Inh: arcs(1, 4), Prio: 2}},
	}
	if e != api.OK || !net.Same(n, want) {
		t.Error(n, e)
	}
	if n, e := Subnet(sample(), math.MaxUint64, math.MaxUint64); e != api.OK || !net.Same(n, sample()) {
		t.Error(n, e)
	}
	if n, e := Subnet(sample(), 2, 0); e != api.OK || !net.Same(n, api.Net{Name: "n", Places: []api.Place{{Name: "q", Init: 5}}}) {
		t.Error(n, e)
	}
	for _, places := range []uint64{0, 8, 1 << 63} {
		if n, e := Subnet(sample(), places, 1); !isZero(n) || e != api.ErrEmpty {
			t.Error(places, n, e)
		}
	}
	if n, e := Subnet(broken, 0, 0); !isZero(n) || e != api.ErrSize {
		t.Error(n, e)
	}
}

func TestStart(t *testing.T) {
	want := sample()
	for p, tokens := range []int{2, api.MaxTokens, 0} {
		want.Places[p].Init = tokens
	}
	if n, e := Start(sample(), []int{2, api.MaxTokens, 0}); e != api.OK || !net.Same(n, want) {
		t.Error(n, e)
	}
	for _, m := range [][]int{nil, {1, 1}, {1, 1, 1, 1}, {-1, 0, 0}, {0, api.MaxTokens + 1, 0}, {3, 0, 0}, {0, 0, 8}} {
		if n, e := Start(sample(), m); !isZero(n) || e != api.ErrInit {
			t.Error(m, n, e)
		}
	}
	if n, e := Start(broken, nil); !isZero(n) || e != api.ErrSize {
		t.Error(n, e)
	}
}

func TestUnion(t *testing.T) {
	a := sample()
	b := api.Net{Name: "n", Places: []api.Place{{Name: "a", Init: 3, Cap: 4}, {Name: "b"}}, Trans: []api.Trans{{Name: "c", Pre: arcs(0, 1, 1, 2), Post: arcs(1, 3), Inh: arcs(0, 9), Prio: 1}}}
	n, e := Union(a, b)
	want := sample()
	want.Places = append(want.Places, b.Places...)
	want.Trans = append(want.Trans, api.Trans{Name: "c", Pre: arcs(3, 1, 4, 2), Post: arcs(4, 3), Inh: arcs(3, 9), Prio: 1})
	if e != api.OK || !net.Same(n, want) {
		t.Error(n, e)
	}
	for i, c := range []struct {
		change func(b *api.Net)
		e      api.Errno
	}{
		{func(b *api.Net) { b.Name = "" }, api.ErrName},
		{func(b *api.Net) { b.Places = many(22) }, api.ErrSize},
		{func(b *api.Net) { b.Places = renamed(21) }, api.OK},
		{func(b *api.Net) { b.Trans = slices.Repeat(b.Trans, 23) }, api.ErrTwice},
		{func(b *api.Net) { b.Trans = transitions(23) }, api.ErrSize},
		{func(b *api.Net) { b.Trans = transitions(22) }, api.OK},
		{func(b *api.Net) { b.Places[1].Name = "r" }, api.ErrTwice},
		{func(b *api.Net) { b.Places[1].Name = "u" }, api.ErrTwice},
		{func(b *api.Net) { b.Trans[0].Name = "q" }, api.ErrTwice},
		{func(b *api.Net) { b.Trans[0].Name = "u" }, api.ErrTwice},
		{func(b *api.Net) { b.Trans[0].Name = "n" }, api.OK},
	} {
		b := api.Net{Name: "b", Places: slices.Clone(b.Places), Trans: slices.Clone(b.Trans)}
		c.change(&b)
		if n, e := Union(a, b); e != c.e || e != api.OK && !isZero(n) {
			t.Errorf("case %d: %d, want %d", i, e, c.e)
		}
	}
	if n, e := Union(broken, api.Net{}); !isZero(n) || e != api.ErrSize {
		t.Error(n, e)
	}
	if n, e := Union(a, api.Net{}); !isZero(n) || e != api.ErrName {
		t.Error(n, e)
	}
}

func renamed(k int) []api.Place {
	places := many(k)
	for i := range places {
		places[i].Name = "x" + strconv.Itoa(i)
	}
	return places
}

func transitions(k int) []api.Trans {
	var list []api.Trans
	for i := range k {
		list = append(list, api.Trans{Name: "x" + strconv.Itoa(i)})
	}
	return list
}

func TestSubnetOfUnion(t *testing.T) {
	for seed := range uint64(200) {
		shape := nettest.Shape{Places: 6, Trans: 6, Tokens: 3, Weight: 9, Cap: 2, Inh: 3, Prio: 2}
		a, b := nettest.Random(seed, shape), nettest.Random(seed+1000, shape)
		for p := range b.Places {
			b.Places[p].Name += "b"
		}
		for i := range b.Trans {
			b.Trans[i].Name += "b"
		}
		n, e := Union(a, b)
		first, f := Subnet(n, bitset.All(len(a.Places)), bitset.All(len(a.Trans)))
		second, g := Subnet(n, ^bitset.All(len(a.Places)), ^bitset.All(len(a.Trans)))
		second.Name = b.Name
		if e != api.OK || f != api.OK || g != api.OK || !net.Same(first, a) || !net.Same(second, b) {
			t.Fatal(a, b, n)
		}
	}
}

// scribble changes everything that a net refers to.
func scribble(n api.Net) {
	clear(n.Places)
	for _, t := range n.Trans {
		clear(t.Pre[:cap(t.Pre)])
		clear(t.Post[:cap(t.Post)])
		clear(t.Inh[:cap(t.Inh)])
	}
	clear(n.Trans)
}

func TestResultsAreNewMemory(t *testing.T) {
	n, full := plain(), sample()
	for i, f := range []func() (api.Net, api.Errno){
		func() (api.Net, api.Errno) { return Complement(full) },
		func() (api.Net, api.Errno) { return Complement(n) },
		func() (api.Net, api.Errno) { return Reverse(n) },
		func() (api.Net, api.Errno) { return Dual(n) },
		func() (api.Net, api.Errno) { return Subnet(full, 7, 3) },
		func() (api.Net, api.Errno) { return Start(full, []int{1, 1, 1}) },
		func() (api.Net, api.Errno) { return Union(full, renamedNet()) },
	} {
		result, e := f()
		if e != api.OK {
			t.Fatal(i, e)
		}
		scribble(result)
		if !net.Same(n, plain()) || !net.Same(full, sample()) {
			t.Errorf("case %d shares memory with its argument", i)
		}
	}
}

func renamedNet() api.Net {
	return api.Net{Name: "n", Places: renamed(3), Trans: []api.Trans{{Name: "y", Pre: arcs(0, 1)}}}
}
