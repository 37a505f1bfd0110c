package predicate

import (
	"math"
	"math/rand"
	"slices"
	"strings"
	"testing"

	"petrinet/api"
	"petrinet/firing"
	"petrinet/nettest"
)

type formula = api.Formula

func fault(e api.Errno, at int) api.Fault {
	return api.Fault{Errno: e, At: at}
}

// sample has places and transitions with simple names, and some whose names are words of texts.
func sample() api.Net {
	return api.Net{
		Name:   "n",
		Places: []api.Place{{Name: "p", Init: 1}, {Name: "q"}, {Name: "not"}},
		Trans:  []api.Trans{{Name: "t", Pre: nettest.Arcs(0, 1)}, {Name: "u", Pre: nettest.Arcs(1, 2)}, {Name: "dead"}},
	}
}

// small is sample without the names that cannot be written, and dead at some markings.
func small() api.Net {
	n := sample()
	n.Places, n.Trans = n.Places[:2], n.Trans[:2]
	return n
}

func atom(place, rel, value int) formula {
	return formula{Kind: api.Atom, N: place, Rel: rel, Value: value}
}

func fires(t int) formula {
	return formula{Kind: api.Fires, N: t}
}

func with(kind int, kids ...formula) formula {
	return formula{Kind: kind, Kids: kids}
}

// nested returns a formula with that number of levels.
func nested(levels int) formula {
	f := with(api.True)
	for range levels - 1 {
		f = with(api.Not, f)
	}
	return f
}

func TestCheck(t *testing.T) {
	yes := with(api.True)
	for i, c := range []struct {
		f formula
		e api.Errno
	}{
		{yes, api.OK},
		{with(api.Dead), api.OK},
		{atom(2, api.Le, 0), api.OK},
		{atom(0, api.Eq, 5), api.OK},
		{atom(0, api.Ge, api.MaxTokens), api.OK},
		{fires(2), api.OK},
		{with(api.Not, yes), api.OK},
		{with(api.And, yes, fires(0)), api.OK},
		{with(api.Or, with(api.Dead), yes), api.OK},
		{nested(16), api.OK},
		{with(api.And, yes, nested(15)), api.OK},
		{nested(17), api.ErrDepth},
		{with(api.And, yes, nested(16)), api.ErrDepth},
		{nested(1000), api.ErrDepth},
		{formula{}, api.ErrKind},
		{with(-1), api.ErrKind},
		{with(api.EX, yes), api.ErrKind},
		{with(api.AU, yes, yes), api.ErrKind},
		{with(math.MaxInt), api.ErrKind},
		{formula{Kind: 8, N: -1, Rel: 9, Kids: []formula{{}, {}, {}}}, api.ErrKind},
		{with(api.True, yes), api.ErrSize},
		{with(api.Dead, formula{}), api.ErrSize},
		{formula{Kind: api.Atom, N: -1, Kids: []formula{yes}}, api.ErrSize},
		{formula{Kind: api.Fires, N: -1, Kids: []formula{{}}}, api.ErrSize},
		{with(api.Not), api.ErrSize},
		{with(api.Not, yes, yes), api.ErrSize},
		{with(api.And, yes), api.ErrSize},
		{with(api.Or, yes, yes, yes), api.ErrSize},
		{atom(3, 0, -1), api.ErrNone},
		{atom(-1, api.Le, 0), api.ErrNone},
		{atom(math.MinInt, api.Le, 0), api.ErrNone},
		{fires(3), api.ErrNone},
		{formula{Kind: api.Fires, N: -1, Rel: 1}, api.ErrNone},
		{atom(0, 0, 0), api.ErrRange},
		{atom(0, 4, 0), api.ErrRange},
		{atom(0, api.Eq, -1), api.ErrRange},
		{atom(0, api.Eq, api.MaxTokens+1), api.ErrRange},
		{formula{Kind: api.True, N: 1}, api.ErrRange},
		{formula{Kind: api.True, Rel: 1}, api.ErrRange},
		{formula{Kind: api.Dead, Value: 1}, api.ErrRange},
		{formula{Kind: api.Dead, N: -1}, api.ErrRange},
		{formula{Kind: api.Fires, Rel: 1}, api.ErrRange},
		{formula{Kind: api.Fires, Value: -1}, api.ErrRange},
		{formula{Kind: api.Not, N: 1, Kids: []formula{{}}}, api.ErrRange},
		{formula{Kind: api.And, Value: 1, Kids: []formula{{}, {}}}, api.ErrRange},
		{formula{Kind: api.Or, Rel: 2, Kids: []formula{{}, {}}}, api.ErrRange},
		// A part comes before its kids, and the first kid before the second one.
		{with(api.And, with(api.Not), formula{}), api.ErrSize},
		{with(api.And, with(api.Not, fires(9)), formula{}), api.ErrNone},
		{with(api.Or, with(api.Not, nested(15)), formula{}), api.ErrDepth},
	} {
		if e := Check(sample(), c.f); e != c.e {
			t.Errorf("case %d: %v, want %v", i, e, c.e)
		}
		s, e := Text(sample(), c.f)
		if e != c.e || (e == api.OK) != (s != "") {
			t.Errorf("case %d: Text %q %v, want %v", i, s, e, c.e)
		}
		if v, e := Eval(sample(), c.f, nil); v || c.e != api.OK && e != c.e || c.e == api.OK && e != api.ErrSize {
			t.Errorf("case %d: Eval %v %v, want %v", i, v, e, c.e)
		}
	}
	n := sample()
	n.Name = ""
	if e := Check(n, formula{}); e != api.ErrName {
		t.Error(e)
	}
	if v, e := Eval(n, formula{}, nil); v || e != api.ErrName {
		t.Error(v, e)
	}
	if s, e := Text(n, formula{}); s != "" || e != api.ErrName {
		t.Error(s, e)
	}
}

func TestEval(t *testing.T) {
	for i, c := range []struct {
		f    formula
		m    []int
		want bool
	}{
		{with(api.True), []int{0, 0}, true},
		{atom(0, api.Le, 2), []int{2, 9}, true},
		{atom(0, api.Le, 2), []int{3, 0}, false},
		{atom(1, api.Eq, 2), []int{0, 2}, true},
		{atom(1, api.Eq, 2), []int{2, 3}, false},
		{atom(1, api.Ge, 2), []int{2, 1}, false},
		{atom(1, api.Ge, 2), []int{0, 2}, true},
		{atom(0, api.Ge, api.MaxTokens), []int{api.MaxTokens, 0}, true},
		{fires(0), []int{1, 0}, true},
		{fires(0), []int{0, 2}, false},
		{fires(1), []int{0, 2}, true},
		{with(api.Dead), []int{0, 1}, true},
		{with(api.Dead), []int{0, 2}, false},
		{with(api.Not, with(api.Dead)), []int{0, 2}, true},
		{with(api.And, fires(0), fires(1)), []int{1, 2}, true},
		{with(api.And, fires(0), fires(1)), []int{1, 1}, false},
		{with(api.And, fires(1), fires(0)), []int{1, 1}, false},
		{with(api.Or, fires(0), fires(1)), []int{1, 1}, true},
		{with(api.Or, fires(1), fires(0)), []int{1, 1}, true},
		{with(api.Or, fires(0), fires(1)), []int{0, 0}, false},
	} {
		if v, e := Eval(small(), c.f, c.m); v != c.want || e != api.OK {
			t.Errorf("case %d: %v %v", i, v, e)
		}
	}
	for _, m := range [][]int{nil, {1}, {1, 2, 3}, {-1, 0}, {0, api.MaxTokens + 1}, {api.Omega, 0}} {
		if v, e := Eval(small(), with(api.True), m); v || e != api.ErrSize {
			t.Error(m, v, e)
		}
	}
	// A transition with a smaller priority may not fire, although it is enabled.
	n := small()
	n.Trans[1].Prio = 1
	if v, e := Eval(n, fires(0), []int{1, 2}); v || e != api.OK {
		t.Error(v, e)
	}
}

func TestText(t *testing.T) {
	for _, c := range []struct {
		f    formula
		want string
	}{
		{with(api.True), "true"},
		{with(api.Dead), "dead"},
		{atom(0, api.Le, 0), "p <= 0"},
		{atom(1, api.Eq, 12), "q = 12"},
		{atom(2, api.Ge, api.MaxTokens), "not >= 1048576"},
		{fires(1), "fires u"},
		{fires(2), "fires dead"},
		{with(api.Not, with(api.Not, fires(0))), "not not fires t"},
		{with(api.And, atom(0, api.Ge, 1), with(api.Not, with(api.Dead))), "( p >= 1 and not dead )"},
		{with(api.Or, with(api.And, with(api.True), with(api.Dead)), with(api.Not, with(api.Or, fires(0), with(api.True)))), "( ( true and dead ) or not ( fires t or true ) )"},
	} {
		if s, e := Text(sample(), c.f); s != c.want || e != api.OK {
			t.Errorf("%q %v, want %q", s, e, c.want)
		}
	}
}

func TestParse(t *testing.T) {
	for _, c := range []struct {
		s    string
		want formula
	}{
		{"true", with(api.True)},
		{"  dead ", with(api.Dead)},
		{"p <= 0", atom(0, api.Le, 0)},
		{"q  =   12", atom(1, api.Eq, 12)},
		{"p >= 1048576", atom(0, api.Ge, api.MaxTokens)},
		{"fires  u", fires(1)},
		{"(p >= 1 and not dead)", with(api.And, atom(0, api.Ge, 1), with(api.Not, with(api.Dead)))},
		{"not(not true or(dead and fires t))", with(api.Not, with(api.Or, with(api.Not, with(api.True)), with(api.And, with(api.Dead), fires(0))))},
		{"((true and dead)or p = 3)", with(api.Or, with(api.And, with(api.True), with(api.Dead)), atom(0, api.Eq, 3))},
		{strings.Repeat("not ", 15) + "true", nested(16)},
		{strings.Repeat(" ", api.MaxText-4) + "true", with(api.True)},
	} {
		f, g := Parse(sample(), c.s)
		if g != (api.Fault{}) || !Same(f, c.want) {
			t.Errorf("%.80q: %v %v", c.s, f, g)
		}
	}
}

func TestParseFaults(t *testing.T) {
	nots := strings.Repeat("not ", 16)
	for _, c := range []struct {
		s string
		f api.Fault
	}{
		{"", fault(api.ErrSyntax, 0)},
		{"   ", fault(api.ErrSyntax, 3)},
		{strings.Repeat(" ", api.MaxText), fault(api.ErrSyntax, api.MaxText)},
		{strings.Repeat(" ", api.MaxText-3) + "true", fault(api.ErrSize, 0)},
		{strings.Repeat("(", api.MaxText+1), fault(api.ErrSize, 0)},
		{" and", fault(api.ErrSyntax, 1)},
		{"or", fault(api.ErrSyntax, 0)},
		{")", fault(api.ErrSyntax, 0)},
		{"=", fault(api.ErrSyntax, 0)},
		{"1", fault(api.ErrSyntax, 0)},
		{"P", fault(api.ErrSyntax, 0)},
		{"True", fault(api.ErrSyntax, 0)},
		{"p>=1", fault(api.ErrSyntax, 0)},
		{"abcdefghijklmnopq = 1", fault(api.ErrSyntax, 0)},
		{"abcdefghijklmnop = 1", fault(api.ErrNone, 0)},
		{"\ttrue", fault(api.ErrSyntax, 0)},
		{"true\n", fault(api.ErrSyntax, 0)},
		{"é", fault(api.ErrSyntax, 0)},
		{"\xff\xfe true", fault(api.ErrSyntax, 0)},
		{"( \xff)", fault(api.ErrSyntax, 2)},
		{"(\xff )", fault(api.ErrSyntax, 1)},
		{"r", fault(api.ErrNone, 0)},
		{"r x y", fault(api.ErrNone, 0)},
		{"t = 1", fault(api.ErrNone, 0)},
		{"not not r", fault(api.ErrNone, 8)},
		{"p", fault(api.ErrSyntax, 1)},
		{"p  ", fault(api.ErrSyntax, 3)},
		{"p == 1", fault(api.ErrSyntax, 2)},
		{"p < 1", fault(api.ErrSyntax, 2)},
		{"p ( 1", fault(api.ErrSyntax, 2)},
		{"p =", fault(api.ErrSyntax, 3)},
		{"p = 01", fault(api.ErrSyntax, 4)},
		{"p = -1", fault(api.ErrSyntax, 4)},
		{"p = 1048577", fault(api.ErrSyntax, 4)},
		{"p = q", fault(api.ErrSyntax, 4)},
		{"p = 1)", fault(api.ErrSyntax, 5)},
		{"p = 1 r", fault(api.ErrSyntax, 6)},
		{"true true", fault(api.ErrSyntax, 5)},
		{"true  and dead", fault(api.ErrSyntax, 6)},
		{"fires", fault(api.ErrSyntax, 5)},
		{"fires (", fault(api.ErrSyntax, 6)},
		{"fires T", fault(api.ErrSyntax, 6)},
		{"fires v", fault(api.ErrNone, 6)},
		{"fires p", fault(api.ErrNone, 6)},
		{"fires 1", fault(api.ErrSyntax, 6)},
		// The words are never names, although the net has a place "not" and a transition "dead".
		{"fires dead", fault(api.ErrSyntax, 6)},
		{"fires true", fault(api.ErrSyntax, 6)},
		{"fires fires", fault(api.ErrSyntax, 6)},
		{"fires and", fault(api.ErrSyntax, 6)},
		{"fires or", fault(api.ErrSyntax, 6)},
		{"fires not", fault(api.ErrSyntax, 6)},
		{"not = 1", fault(api.ErrSyntax, 4)},
		{"not", fault(api.ErrSyntax, 3)},
		{"(", fault(api.ErrSyntax, 1)},
		{"()", fault(api.ErrSyntax, 1)},
		{"(true", fault(api.ErrSyntax, 5)},
		{"(true)", fault(api.ErrSyntax, 5)},
		{"(true not dead)", fault(api.ErrSyntax, 6)},
		{"(true and", fault(api.ErrSyntax, 9)},
		{"(true and)", fault(api.ErrSyntax, 9)},
		{"(true or dead", fault(api.ErrSyntax, 13)},
		{"(true or dead and true)", fault(api.ErrSyntax, 14)},
		{"(true or dead))", fault(api.ErrSyntax, 14)},
		{"(true or dead) x", fault(api.ErrSyntax, 15)},
		// A part must begin at the word after 16 nots.
		{nots, fault(api.ErrSyntax, 64)},
		{nots + " ", fault(api.ErrSyntax, 65)},
		{nots + "true", fault(api.ErrDepth, 64)},
		{nots + " )", fault(api.ErrDepth, 65)},
		{nots + "R", fault(api.ErrDepth, 64)},
		{nots + "and", fault(api.ErrDepth, 64)},
		{strings.Repeat("(", 17), fault(api.ErrDepth, 16)},
		{strings.Repeat("(", 16), fault(api.ErrSyntax, 16)},
		{strings.Repeat("(", 15) + "true)", fault(api.ErrSyntax, 19)},
		{strings.Repeat("(", 15) + "true and " + "not true", fault(api.ErrDepth, 28)},
		{strings.Repeat("(", 15) + "r and " + "not true", fault(api.ErrNone, 15)},
	} {
		if f, g := Parse(sample(), c.s); g != c.f || !Same(f, formula{}) {
			t.Errorf("%.80q: %v %v, want %v", c.s, f, g, c.f)
		}
	}
	n := sample()
	n.Trans[1].Name = "t"
	for _, s := range []string{"true", "", strings.Repeat("(", api.MaxText+1)} {
		if f, g := Parse(n, s); g != fault(api.ErrTwice, 0) || !Same(f, formula{}) {
			t.Error(f, g)
		}
	}
}

// random returns a predicate for small with at most that many levels.
func random(r *rand.Rand, levels int) formula {
	if levels > 1 {
		switch r.Intn(5) {
		case 0:
			return with(api.Not, random(r, levels-1))
		case 1:
			return with(api.And, random(r, levels-1), random(r, levels-1))
		case 2:
			return with(api.Or, random(r, levels-1), random(r, levels-1))
		}
	}
	switch r.Intn(5) {
	case 0:
		return with(api.True)
	case 1:
		return with(api.Dead)
	case 2:
		return fires(r.Intn(2))
	}
	return atom(r.Intn(2), api.Le+r.Intn(3), r.Intn(4))
}

// defined is the value by the definition.
func defined(n api.Net, f formula, m []int) bool {
	switch f.Kind {
	case api.True:
		return true
	case api.Atom:
		return map[int]bool{api.Le: m[f.N] <= f.Value, api.Eq: m[f.N] == f.Value, api.Ge: m[f.N] >= f.Value}[f.Rel]
	case api.Fires:
		return slices.Contains(firing.List(n, m), f.N)
	case api.Dead:
		return len(firing.List(n, m)) == 0
	case api.Not:
		return !defined(n, f.Kids[0], m)
	case api.And:
		first, second := defined(n, f.Kids[0], m), defined(n, f.Kids[1], m)
		return first && second
	}
	first, second := defined(n, f.Kids[0], m), defined(n, f.Kids[1], m)
	return first || second
}

func TestRandomPredicates(t *testing.T) {
	r := rand.New(rand.NewSource(19))
	n := small()
	eval := func(f formula, m []int) bool {
		v, e := Eval(n, f, m)
		if e != api.OK {
			t.Fatal(f, e)
		}
		return v
	}
	for range 3000 {
		f, g := random(r, 1+r.Intn(8)), random(r, 1+r.Intn(8))
		m := []int{r.Intn(4), r.Intn(4)}
		if v := eval(f, m); v != defined(n, f, m) || eval(Negate(f), m) == v {
			t.Fatal(f, m, v)
		}
		if eval(Negate(with(api.And, f, g)), m) != eval(with(api.Or, Negate(f), Negate(g)), m) || eval(Negate(with(api.Or, f, g)), m) != eval(with(api.And, Negate(f), Negate(g)), m) {
			t.Fatal("De Morgan", f, g, m)
		}
		s, e := Text(n, f)
		back, h := Parse(n, s)
		if e != api.OK || h != (api.Fault{}) || !Same(back, f) {
			t.Fatalf("%q: %v %v %v", s, f, back, h)
		}
		spaced := "  " + strings.ReplaceAll(strings.ReplaceAll(s, "( ", "("), " )", " )  ")
		if back, h = Parse(n, spaced); h != (api.Fault{}) || !Same(back, f) {
			t.Fatalf("%q: %v %v", spaced, back, h)
		}
	}
}

// offsets returns where the words of a text begin, and its length.
func offsets(s string) []int {
	var list []int
	for i := range len(s) {
		boundary := func(c byte) bool { return c == ' ' || c == '(' || c == ')' }
		if s[i] != ' ' && (i == 0 || boundary(s[i]) || boundary(s[i-1])) {
			list = append(list, i)
		}
	}
	return append(list, len(s))
}

func TestChangedTexts(t *testing.T) {
	r := rand.New(rand.NewSource(20))
	words := []string{"true", "dead", "fires", "not", "and", "or", "(", ")", "p", "q", "t", "u", "r", "=", "<=", "3", "R", " "}
	correct := 0
	for range 20000 {
		s, _ := Text(small(), random(r, 1+r.Intn(5)))
		parts := strings.Split(s, " ")
		for range 1 + r.Intn(2) {
			i := r.Intn(len(parts))
			switch word := words[r.Intn(len(words))]; r.Intn(3) {
			case 0:
				parts[i] = word
			case 1:
				parts = slices.Insert(parts, i, word)
			default:
				if len(parts) > 1 {
					parts = slices.Delete(parts, i, i+1)
				}
			}
		}
		s = strings.Join(parts, " ")
		f, g := Parse(small(), s)
		if g.Errno != api.OK {
			if !slices.Contains(offsets(s), g.At) || !Same(f, formula{}) {
				t.Fatalf("%q: %v", s, g)
			}
			// The fault does not depend on what follows its word.
			end := g.At
			for _, next := range offsets(s) {
				if next > g.At {
					end = next
					break
				}
			}
			if _, h := Parse(small(), s[:end]+" ((("); h.At != g.At && g.At < len(s) {
				t.Fatalf("%q: %v, with another rest %v", s, g, h)
			}
			continue
		}
		correct++
		text, e := Text(small(), f)
		back, h := Parse(small(), text)
		if e != api.OK || h != (api.Fault{}) || !Same(back, f) || strings.Join(strings.Fields(strings.NewReplacer("(", " ( ", ")", " ) ").Replace(s)), " ") != text {
			t.Fatalf("%q: %q %v", s, text, f)
		}
	}
	if correct < 1000 {
		t.Error(correct)
	}
}

func TestNegateSame(t *testing.T) {
	strange := formula{Kind: api.EU, N: -7, Rel: 99, Value: math.MinInt, Kids: []formula{{}, atom(1, 2, 3), with(77, formula{})}}
	for i, c := range []struct{ f, want formula }{
		{formula{}, with(api.Not, formula{})},
		{with(api.True), with(api.Not, with(api.True))},
		{with(api.Not, with(api.True)), with(api.True)},
		{with(api.Not, with(api.Not, with(api.True))), with(api.Not, with(api.True))},
		{with(api.Not), with(api.Not, with(api.Not))},
		{with(api.Not, fires(1), fires(0)), with(api.Not, with(api.Not, fires(1), fires(0)))},
		{formula{Kind: api.Not, N: 3, Kids: []formula{strange}}, strange},
		{strange, with(api.Not, strange)},
	} {
		if f := Negate(c.f); !Same(f, c.want) || !Same(c.want, f) {
			t.Errorf("case %d: %v", i, f)
		}
	}
	if !Same(formula{Kids: []formula{}}, formula{}) || !Same(strange, strange) {
		t.Error("not the same")
	}
	for i, change := range []func(f *formula){
		func(f *formula) { f.Kind++ },
		func(f *formula) { f.N++ },
		func(f *formula) { f.Rel++ },
		func(f *formula) { f.Value++ },
		func(f *formula) { f.Kids = f.Kids[:2] },
		func(f *formula) { f.Kids = slices.Insert(slices.Clone(f.Kids), 0, formula{}) },
		func(f *formula) { f.Kids = []formula{f.Kids[1], f.Kids[0], f.Kids[2]} },
		func(f *formula) { f.Kids = []formula{f.Kids[0], f.Kids[1], with(77, formula{N: 1})} },
	} {
		f := strange
		if change(&f); Same(f, strange) || Same(strange, f) {
			t.Errorf("case %d: the same", i)
		}
	}
}

func TestSharesNoMemory(t *testing.T) {
	f := with(api.And, with(api.Not, fires(1)), with(api.True))
	g := Negate(f)
	g.Kids[0].Kids[0].Kids[0].N = 9
	if !Same(f, with(api.And, with(api.Not, fires(1)), with(api.True))) {
		t.Error("the argument was changed")
	}
	h := with(api.Not, f)
	g = Negate(h)
	g.Kids[0].Kids[0].N = 9
	if f.Kids[0].Kids[0].N != 1 {
		t.Error("the argument was changed")
	}
}

func TestManyLevels(t *testing.T) {
	f := nested(1 << 16)
	if g := Negate(f); !Same(g, nested(1<<16-1)) {
		t.Error("Negate")
	}
	next := with(api.EX, nested(1<<16-1))
	if g := Negate(next); g.Kind != api.Not || len(g.Kids) != 1 || !Same(g.Kids[0], next) {
		t.Error("Negate")
	}
	if !Same(f, nested(1<<16)) || Same(f, nested(1<<16-1)) {
		t.Error("Same")
	}
	// Formulas that contain themselves have no end.
	loop := []formula{{Kind: api.Not}}
	loop[0].Kids = loop
	fork := []formula{{Kind: api.And}, {Kind: api.And}}
	fork[0].Kids, fork[1].Kids = fork, fork
	for _, f := range []formula{loop[0], fork[0]} {
		Negate(f)
		Same(f, f)
		if e := Check(sample(), f); e != api.ErrDepth {
			t.Error(e)
		}
	}
}
