package system

import (
	"math"
	"math/rand"
	"slices"
	"strconv"
	"strings"
	"testing"

	"petrinet/api"
)

// arc returns an edge in the order of a text.
func arc(from, event, to int) api.Edge {
	return api.Edge{From: from, Trans: event, To: to}
}

// cycle has two states and the events a and b.
func cycle() api.System {
	return api.System{States: 2, Events: []string{"a", "b"}, Arcs: []api.Edge{arc(0, 0, 1), arc(1, 1, 0)}}
}

func same(a, b [][]int) bool {
	return slices.EqualFunc(a, b, slices.Equal[[]int])
}

func equal(a, b api.System) bool {
	return a.States == b.States && slices.Equal(a.Events, b.Events) && slices.Equal(a.Arcs, b.Arcs)
}

func numbered(n int) []string {
	var list []string
	for i := range n {
		list = append(list, "e"+strconv.Itoa(i))
	}
	return list
}

func TestCheckValid(t *testing.T) {
	for i, s := range []api.System{
		cycle(), {States: 1}, {States: 200, Events: numbered(api.MaxTrans), Arcs: []api.Edge{arc(199, 23, 199)}},
		{States: 3, Events: []string{"a"}, Arcs: []api.Edge{arc(0, 0, 0), arc(0, 0, 1), arc(0, 0, 2)}},
	} {
		if f := Check(s); f != (api.Fault{}) {
			t.Errorf("case %d: %v", i, f)
		}
	}
}

// faulty has systems that are not valid, with their faults.
func faulty() map[*api.System]api.Fault {
	abc := []string{"a", "b", "c"}
	list := map[*api.System]api.Fault{
		{}:                                 {Errno: api.ErrSize},
		{States: -1, Events: []string{""}}: {Errno: api.ErrSize},
		{States: 201}:                      {Errno: api.ErrSize},
		{States: 200, Events: numbered(api.MaxTrans + 1)}: {Errno: api.ErrSize},
		{States: 2, Events: []string{"a", "B"}}:           {Errno: api.ErrName, At: 1},
		{States: 2, Events: []string{"", "a", "a"}}:       {Errno: api.ErrName},
		{States: 2, Events: []string{"a", "b", "a"}}:      {Errno: api.ErrTwice, At: 2},
		{States: 2, Events: []string{"a", "a", "1"}}:      {Errno: api.ErrTwice, At: 1},
		{States: math.MaxInt, Events: []string{"event"}}:  {Errno: api.ErrSize},
	}
	for _, a := range []api.Edge{arc(-1, 0, 0), arc(2, 0, 0), arc(1, 0, -1), arc(1, 0, 2), arc(1, -1, 0), arc(1, 3, 0), arc(math.MaxInt, 0, 0)} {
		list[&api.System{States: 2, Events: abc, Arcs: []api.Edge{arc(0, 0, 1), a, arc(0, 0, 0)}}] = api.Fault{Errno: api.ErrRange, At: 1}
	}
	for _, a := range []api.Edge{arc(1, 1, 1), arc(1, 1, 0), arc(1, 0, 2), arc(0, 2, 2)} {
		list[&api.System{States: 3, Events: abc, Arcs: []api.Edge{arc(0, 0, 0), arc(1, 1, 1), a, arc(9, 9, 9)}}] = api.Fault{Errno: api.ErrOrder, At: 2}
	}
	return list
}

func TestCheck(t *testing.T) {
	for s, want := range faulty() {
		if f := Check(*s); f != want {
			t.Errorf("%v has the fault %v, want %v", *s, f, want)
		}
		if Deterministic(*s) || Reachable(*s) || Next(*s, 0, 0) != -1 || len(Traces(*s, 2)) != 0 {
			t.Errorf("answers about %v", *s)
		}
		if image, ok := Iso(*s, *s); len(image) != 0 || ok {
			t.Errorf("Iso of %v is %v", *s, image)
		}
		if text, f := Text(*s); text != "" || f != want {
			t.Errorf("Text of %v is %q %v", *s, text, f)
		}
	}
}

func TestDeterministic(t *testing.T) {
	if !Deterministic(cycle()) || !Deterministic(api.System{States: 2}) {
		t.Error("deterministic systems")
	}
	s := api.System{States: 3, Events: []string{"a", "b"}, Arcs: []api.Edge{arc(0, 0, 1), arc(0, 1, 1), arc(1, 0, 2), arc(1, 1, 2), arc(2, 1, 0)}}
	if !Deterministic(s) {
		t.Error("all arcs differ in From or Trans")
	}
	s.Arcs[4] = arc(1, 1, 0)
	slices.SortFunc(s.Arcs, compareArcs)
	if Deterministic(s) {
		t.Error("two arcs from 1 with b")
	}
}

func TestReachable(t *testing.T) {
	if !Reachable(cycle()) || !Reachable(api.System{States: 1}) || Reachable(api.System{States: 2}) {
		t.Error("Reachable")
	}
	s := api.System{States: 3, Events: []string{"a"}, Arcs: []api.Edge{arc(0, 0, 2), arc(1, 0, 0), arc(2, 0, 0)}}
	if Reachable(s) {
		t.Error("no path leads to 1")
	}
	s.Arcs[2] = arc(2, 0, 1)
	if !Reachable(s) {
		t.Error("a path leads to 1")
	}
	var path api.System
	path.States, path.Events = 200, []string{"a"}
	for i := range 199 {
		path.Arcs = append(path.Arcs, arc(i, 0, i+1))
	}
	if !Reachable(path) {
		t.Error("a path")
	}
}

func TestNext(t *testing.T) {
	s := api.System{States: 3, Events: []string{"a", "b"}, Arcs: []api.Edge{arc(0, 0, 1), arc(0, 0, 2), arc(0, 1, 0), arc(2, 1, 2)}}
	for _, c := range [][3]int{{0, 0, 1}, {0, 1, 0}, {2, 1, 2}, {2, 0, -1}, {1, 0, -1}, {-1, 0, -1}, {3, 0, -1}, {0, -1, -1}, {0, 2, -1}, {math.MinInt, math.MaxInt, -1}} {
		if got := Next(s, c[0], c[1]); got != c[2] {
			t.Errorf("Next of %d and %d is %d", c[0], c[1], got)
		}
	}
}

func TestIso(t *testing.T) {
	if image, ok := Iso(cycle(), cycle()); !ok || !slices.Equal(image, []int{0, 1}) {
		t.Error(image, ok)
	}
	// The events have another order, and the states other numbers.
	a := api.System{States: 3, Events: []string{"x", "y"}, Arcs: []api.Edge{arc(0, 0, 1), arc(0, 1, 2), arc(1, 1, 1)}}
	b := api.System{States: 3, Events: []string{"y", "x"}, Arcs: []api.Edge{arc(0, 0, 1), arc(0, 1, 2), arc(2, 0, 2)}}
	if image, ok := Iso(a, b); !ok || !slices.Equal(image, []int{0, 2, 1}) {
		t.Error(image, ok)
	}
	if image, ok := Iso(api.System{States: 1}, api.System{States: 1}); !ok || !slices.Equal(image, []int{0}) {
		t.Error("one state", image, ok)
	}
}

func TestIsoFails(t *testing.T) {
	abc := []string{"a", "b", "c"}
	system := func(states int, events []string, arcs ...api.Edge) api.System {
		return api.System{States: states, Events: events, Arcs: arcs}
	}
	for i, pair := range [][2]api.System{
		{cycle(), system(2, []string{"a", "c"}, arc(0, 0, 1), arc(1, 1, 0))},
		{cycle(), system(2, abc, arc(0, 0, 1), arc(1, 1, 0))},
		{cycle(), system(2, []string{"b", "a"}, arc(0, 0, 1), arc(1, 1, 0))},
		{cycle(), system(2, abc[:2], arc(0, 0, 1), arc(1, 0, 0))},
		{cycle(), system(2, abc[:2], arc(0, 0, 1), arc(1, 1, 1))},
		{cycle(), system(2, abc[:2], arc(0, 0, 1))},
		{cycle(), system(2, abc[:2], arc(0, 0, 1), arc(1, 0, 1), arc(1, 1, 0))},
		{cycle(), system(3, abc[:2], arc(0, 0, 1), arc(1, 1, 2))},
		// A longer cycle does the same, but has more states.
		{cycle(), system(4, abc[:2], arc(0, 0, 1), arc(1, 1, 2), arc(2, 0, 3), arc(3, 1, 0))},
		// Two states would have the same image, or one state two.
		{system(3, abc, arc(0, 0, 1), arc(0, 1, 2)), system(3, abc, arc(0, 0, 1), arc(0, 1, 1), arc(0, 2, 2))},
		{system(3, abc, arc(0, 0, 1), arc(0, 1, 2), arc(0, 2, 1)), system(3, abc, arc(0, 0, 1), arc(0, 1, 2), arc(0, 2, 2))},
		{system(3, abc, arc(0, 0, 1), arc(0, 1, 1), arc(0, 2, 2)), system(3, abc, arc(0, 0, 1), arc(0, 1, 2), arc(0, 2, 2))},
		// Conditions do not hold.
		{system(2, abc), system(2, abc)},
		{system(2, abc, arc(0, 0, 0), arc(0, 0, 1)), system(2, abc, arc(0, 0, 0), arc(0, 0, 1))},
		{system(2, abc, arc(0, 0, 0), arc(0, 0, 1)), system(2, abc, arc(0, 0, 1))},
		{system(2, abc, arc(0, 0, 1)), system(2, abc, arc(0, 0, 0))},
	} {
		for _, p := range [][2]api.System{pair, {pair[1], pair[0]}} {
			if image, ok := Iso(p[0], p[1]); ok || len(image) != 0 {
				t.Errorf("case %d: %v", i, image)
			}
		}
	}
}

// random returns a deterministic system in which all states are reachable.
func random(source *rand.Rand) api.System {
	for {
		s := api.System{States: 1 + source.Intn(5), Events: numbered(1 + source.Intn(3))}
		for state := range s.States {
			for event := range s.Events {
				if source.Intn(3) > 0 {
					s.Arcs = append(s.Arcs, arc(state, event, source.Intn(s.States)))
				}
			}
		}
		if Reachable(s) {
			return s
		}
	}
}

// renumber permutes the states other than 0 and the events.
func renumber(source *rand.Rand, s api.System) (api.System, []int) {
	states := append([]int{0}, source.Perm(s.States-1)...)
	for i := 1; i < len(states); i++ {
		states[i]++
	}
	events := source.Perm(len(s.Events))
	r := api.System{States: s.States, Events: make([]string, len(s.Events))}
	for i, name := range s.Events {
		r.Events[events[i]] = name
	}
	for _, a := range s.Arcs {
		r.Arcs = append(r.Arcs, arc(states[a.From], events[a.Trans], states[a.To]))
	}
	slices.SortFunc(r.Arcs, compareArcs)
	return r, states
}

// spelled returns the traces with the names of events, sorted.
func spelled(s api.System, traces [][]int) []string {
	var list []string
	for _, trace := range traces {
		var text strings.Builder
		for _, event := range trace {
			text.WriteString(s.Events[event] + " ")
		}
		list = append(list, text.String())
	}
	slices.Sort(list)
	return list
}

func TestIsoOfArbitrarySystems(t *testing.T) {
	source := rand.New(rand.NewSource(45))
	for range 500 {
		s := random(source)
		r, states := renumber(source, s)
		if image, ok := Iso(s, r); !ok || !slices.Equal(image, states) {
			t.Fatalf("Iso of %v and %v is %v", s, r, image)
		}
		if !slices.Equal(spelled(s, Traces(s, 4)), spelled(r, Traces(r, 4))) {
			t.Fatalf("the traces of %v and %v differ", s, r)
		}
		image, ok := Iso(s, s)
		for i := range image {
			if image[i] != i || !ok {
				t.Fatalf("Iso of %v with itself is %v", s, image)
			}
		}
		o := random(source)
		image, ok = Iso(s, o)
		if ok != (s.States == o.States && slices.Equal(s.Events, o.Events) && mapped(s, o, image)) {
			t.Fatalf("Iso of %v and %v is %v", s, o, image)
		}
	}
}

// mapped reports whether the image of the arcs of one system are those of another one with the same events.
func mapped(s, o api.System, image []int) bool {
	if len(image) != s.States {
		return false
	}
	var arcs []api.Edge
	for _, a := range s.Arcs {
		arcs = append(arcs, arc(image[a.From], a.Trans, image[a.To]))
	}
	slices.SortFunc(arcs, compareArcs)
	return slices.Equal(arcs, o.Arcs)
}

func TestIsoOfAPath(t *testing.T) {
	s := api.System{States: 200, Events: []string{"a"}}
	for i := range 200 {
		s.Arcs = append(s.Arcs, arc(i, 0, (i+1)%200))
	}
	if image, ok := Iso(s, s); !ok || len(image) != 200 || image[199] != 199 {
		t.Error(image, ok)
	}
}

func TestTraces(t *testing.T) {
	for k, want := range [][][]int{{{}}, {{}, {0}}, {{}, {0}, {0, 1}}, {{}, {0}, {0, 1}, {0, 1, 0}}} {
		if got := Traces(cycle(), k); !same(got, want) {
			t.Errorf("Traces to length %d: %v", k, got)
		}
	}
	for _, k := range []int{-1, 7, math.MinInt, math.MaxInt} {
		if got := Traces(cycle(), k); len(got) != 0 {
			t.Errorf("Traces to length %d: %v", k, got)
		}
	}
	if got := Traces(cycle(), 6); len(got) != 7 {
		t.Error(got)
	}
	// Two paths of one trace, which continue differently.
	s := api.System{States: 4, Events: []string{"a", "b"}, Arcs: []api.Edge{arc(0, 0, 1), arc(0, 0, 2), arc(0, 1, 3), arc(1, 1, 3), arc(2, 0, 3), arc(2, 1, 2)}}
	if got := Traces(s, 3); !same(got, [][]int{{}, {0}, {1}, {0, 0}, {0, 1}, {0, 1, 0}, {0, 1, 1}}) {
		t.Error(got)
	}
	if got := Traces(api.System{States: 1}, 6); !same(got, [][]int{{}}) {
		t.Error(got)
	}
}

func TestTracesHaveALimit(t *testing.T) {
	s := api.System{States: 1, Events: numbered(api.MaxTrans)}
	for event := range s.Events {
		s.Arcs = append(s.Arcs, arc(0, event, 0))
	}
	got := Traces(s, 6)
	if len(got) != 5000 || !slices.Equal(got[4999], []int{7, 15, 6}) {
		t.Error(len(got), got[4999])
	}
	if got := Traces(s, 2); len(got) != 1+24+576 {
		t.Error(len(got))
	}
	s.Events, s.Arcs = s.Events[:4], s.Arcs[:4]
	// 1365 traces have at most 5 events; 3635 of length 6 follow.
	got = Traces(s, 6)
	if len(got) != 5000 || !slices.Equal(got[4999], []int{3, 2, 0, 3, 0, 2}) {
		t.Error(len(got), got[4999])
	}
}

func TestTracesOfADenseSystem(t *testing.T) {
	s := api.System{States: 200, Events: numbered(4)}
	for i := range 200 * 4 * 200 {
		s.Arcs = append(s.Arcs, arc(i/800, i/200%4, i%200))
	}
	got := Traces(s, 6)
	if len(got) != 5000 || !slices.IsSortedFunc(got, func(a, b []int) int {
		if len(a) != len(b) {
			return len(a) - len(b)
		}
		return slices.Compare(a, b)
	}) {
		t.Error(len(got))
	}
	got[1][0] = 77
	if got[5][0] == 77 || Traces(s, 1)[1][0] == 77 {
		t.Error("traces share memory")
	}
}

// paths returns by brute force the traces of one length.
func paths(s api.System, k int) []string {
	found := map[string]bool{}
	var walk func(state, k int, text string)
	walk = func(state, k int, text string) {
		if k == 0 {
			found[text] = true
			return
		}
		for _, a := range s.Arcs {
			if a.From == state {
				walk(a.To, k-1, text+s.Events[a.Trans]+" ")
			}
		}
	}
	walk(0, k, "")
	var list []string
	for text := range found {
		list = append(list, text)
	}
	slices.Sort(list)
	return list
}

func TestTracesOfArbitrarySystems(t *testing.T) {
	source := rand.New(rand.NewSource(46))
	for range 200 {
		s := api.System{States: 1 + source.Intn(4), Events: numbered(1 + source.Intn(3))}
		for i := range s.States * len(s.Events) * s.States {
			if source.Intn(4) == 0 {
				s.Arcs = append(s.Arcs, arc(i/(len(s.Events)*s.States), i/s.States%len(s.Events), i%s.States))
			}
		}
		traces := Traces(s, 4)
		for k := range 5 {
			var list [][]int
			for _, trace := range traces {
				if len(trace) == k {
					list = append(list, trace)
				}
			}
			if !slices.IsSortedFunc(list, slices.Compare[[]int]) || !slices.Equal(spelled(s, list), paths(s, k)) {
				t.Fatalf("traces of %v: %v", s, list)
			}
		}
	}
}

func TestText(t *testing.T) {
	if text, f := Text(cycle()); text != "states 2\nevent a\nevent b\n0 a 1\n1 b 0\n" || f != (api.Fault{}) {
		t.Errorf("%q %v", text, f)
	}
	if text, f := Text(api.System{States: 1}); text != "states 1\n" || f != (api.Fault{}) {
		t.Errorf("%q %v", text, f)
	}
	source := rand.New(rand.NewSource(47))
	for range 200 {
		s := random(source)
		text, _ := Text(s)
		if got, f := Parse(text); !equal(got, s) || f != (api.Fault{}) {
			t.Fatalf("Parse(%q) is %v %v", text, got, f)
		}
	}
}

func TestParse(t *testing.T) {
	// Words that look like other lines.
	s := api.System{States: 3, Events: []string{"states", "event", "_0"}, Arcs: []api.Edge{arc(0, 1, 1), arc(1, 0, 2), arc(2, 2, 0)}}
	if got, f := Parse("states 3\nevent states\nevent event\nevent _0\n0 event 1\n1 states 2\n2 _0 0\n"); !equal(got, s) || f != (api.Fault{}) {
		t.Error(got, f)
	}
}

func TestParseFaults(t *testing.T) {
	for text, want := range map[string]api.Fault{
		strings.Repeat("x", api.MaxText+1):        {Errno: api.ErrSize},
		strings.Repeat("x", api.MaxText-1) + "\n": {Errno: api.ErrSyntax, At: 1},
		"":                                     {Errno: api.ErrSyntax, At: 1},
		"\n":                                   {Errno: api.ErrSyntax, At: 1},
		"\nstates 1\n":                         {Errno: api.ErrSyntax, At: 1},
		"states 1\n\n":                         {Errno: api.ErrSyntax, At: 2},
		"states 1\n\nevent a\n":                {Errno: api.ErrSyntax, At: 2},
		"states\n":                             {Errno: api.ErrSyntax, At: 1},
		"states \n":                            {Errno: api.ErrSyntax, At: 1},
		"states 1 \n":                          {Errno: api.ErrSyntax, At: 1},
		" states 1\n":                          {Errno: api.ErrSyntax, At: 1},
		"states  1\n":                          {Errno: api.ErrSyntax, At: 1},
		"states 1 1\n":                         {Errno: api.ErrSyntax, At: 1},
		"states 01\n":                          {Errno: api.ErrSyntax, At: 1},
		"states +1\n":                          {Errno: api.ErrSyntax, At: 1},
		"states -1\n":                          {Errno: api.ErrSyntax, At: 1},
		"states -0\n":                          {Errno: api.ErrSyntax, At: 1},
		"states 1048577\n":                     {Errno: api.ErrSyntax, At: 1},
		"states 99999999999999999999\n":        {Errno: api.ErrSyntax, At: 1},
		"states 1\r\n":                         {Errno: api.ErrSyntax, At: 1},
		"States 1\n":                           {Errno: api.ErrSyntax, At: 1},
		"event a\n":                            {Errno: api.ErrSyntax, At: 1},
		"0 a 1\n":                              {Errno: api.ErrSyntax, At: 1},
		"states 1\nstates 1\n":                 {Errno: api.ErrSyntax, At: 2},
		"states 2\nevent\n":                    {Errno: api.ErrSyntax, At: 2},
		"states 2\nevent \n":                   {Errno: api.ErrSyntax, At: 2},
		"states 2\nevent  a\n":                 {Errno: api.ErrSyntax, At: 2},
		"states 2\nevent a \n":                 {Errno: api.ErrSyntax, At: 2},
		"states 2\nevent a b\n":                {Errno: api.ErrSyntax, At: 2},
		"states 2\nevents a\n":                 {Errno: api.ErrSyntax, At: 2},
		"states 2\nevent a\n0 a 1\nevent b\n":  {Errno: api.ErrSyntax, At: 4},
		"states 2\nevent a\n0 a 1\nstates 2\n": {Errno: api.ErrSyntax, At: 4},
		"states 2\nevent a\n0 b 1\n":           {Errno: api.ErrSyntax, At: 3},
		"states 2\nevent a\n0 A 1\n":           {Errno: api.ErrSyntax, At: 3},
		"states 2\nevent a\n0 a\n":             {Errno: api.ErrSyntax, At: 3},
		"states 2\nevent a\n0 a 1 1\n":         {Errno: api.ErrSyntax, At: 3},
		"states 2\nevent a\n0  1\n":            {Errno: api.ErrSyntax, At: 3},
		"states 2\nevent a\n00 a 1\n":          {Errno: api.ErrSyntax, At: 3},
		"states 2\nevent a\n0 a 01\n":          {Errno: api.ErrSyntax, At: 3},
		"states 2\nevent a\n-1 a 1\n":          {Errno: api.ErrSyntax, At: 3},
		"states 2\nevent a\n0 a 1048577\n":     {Errno: api.ErrSyntax, At: 3},
		"states 2\nevent a\n0 a 1\n \n":        {Errno: api.ErrSyntax, At: 4},
		"states 2\nevent a\n0\ta\t1\n":         {Errno: api.ErrSyntax, At: 3},
		"states 0\nevent A\nevent A\n9 A 9\nevent a\n": {Errno: api.ErrSyntax, At: 5},
		"states 0\nevent A\nevent A\n9 A 9\n":          {Errno: api.ErrSize},
		"states 201\n":                                 {Errno: api.ErrSize},
		"states 1048576\n":                             {Errno: api.ErrSize},
		"states 1\nevent a\nevent B\n":                 {Errno: api.ErrName, At: 1},
		"states 1\nevent a\r\n":                        {Errno: api.ErrName},
		"states 1\nevent \xff\n":                       {Errno: api.ErrName},
		"states 1\nevent a\tb\n":                       {Errno: api.ErrName},
		"states 1\nevent a\nevent a\n0 a 0\n":          {Errno: api.ErrTwice, At: 1},
		"states 1\nevent a\n0 a 1\n":                   {Errno: api.ErrRange},
		"states 1\nevent a\n0 a 0\n1048576 a 0\n":      {Errno: api.ErrRange, At: 1},
		"states 2\nevent a\n0 a 0\n1 a 0\n0 a 1\n":     {Errno: api.ErrOrder, At: 2},
		"states 2\nevent a\nevent b\n0 b 0\n0 a 0\n":   {Errno: api.ErrOrder, At: 1},
		"states 2\nevent a\n0 a 0\n0 a 0\n":            {Errno: api.ErrOrder, At: 1},
		"states 1\n" + strings.Repeat("event a\n", 25): {Errno: api.ErrSize},
	} {
		if s, f := Parse(text); !equal(s, api.System{}) || f != want {
			t.Errorf("Parse(%.60q) is %v %v, want %v", text, s, f, want)
		}
	}
}

func TestParseLastLineWithoutLineFeed(t *testing.T) {
	for text, want := range map[string]api.Fault{
		"":                            {Errno: api.ErrSyntax, At: 1},
		"states 4":                    {Errno: api.ErrSyntax, At: 1},
		"states 4\r":                  {Errno: api.ErrSyntax, At: 1},
		"states 4\n ":                 {Errno: api.ErrSyntax, At: 2},
		"states 2\nevent a":           {Errno: api.ErrSyntax, At: 2},
		"states 2\nevent a\n0 a 1":    {Errno: api.ErrSyntax, At: 3},
		"states 2\nevent a\n0 a 1\nx": {Errno: api.ErrSyntax, At: 4},
		// The size comes first, and then an earlier line.
		"states 1\n" + strings.Repeat("x", api.MaxText): {Errno: api.ErrSize},
		"states 01\nevent a":                            {Errno: api.ErrSyntax, At: 1},
		"states 2\nevents a\n0 a 1":                     {Errno: api.ErrSyntax, At: 2},
		// The faults of Check come after it.
		"states 0":                                 {Errno: api.ErrSyntax, At: 1},
		"states 201":                               {Errno: api.ErrSyntax, At: 1},
		"states 1\nevent A":                        {Errno: api.ErrSyntax, At: 2},
		"states 1\nevent a\nevent a":               {Errno: api.ErrSyntax, At: 3},
		"states 1\nevent a\n0 a 1":                 {Errno: api.ErrSyntax, At: 3},
		"states 2\nevent a\n1 a 0\n0 a 1":          {Errno: api.ErrSyntax, At: 4},
		"states 0\nevent A\nevent A\n9 A 9\n7 A 7": {Errno: api.ErrSyntax, At: 5},
	} {
		if s, f := Parse(text); !equal(s, api.System{}) || f != want {
			t.Errorf("Parse(%.60q) is %v %v, want %v", text, s, f, want)
		}
	}
}

func TestParseOfArbitraryPrefixes(t *testing.T) {
	source := rand.New(rand.NewSource(48))
	for range 100 {
		text, _ := Text(random(source))
		for end := range text {
			prefix := text[:end]
			want := api.Fault{}
			if !strings.HasSuffix(prefix, "\n") {
				want = api.Fault{Errno: api.ErrSyntax, At: 1 + strings.Count(prefix, "\n")}
			}
			s, f := Parse(prefix)
			if f != want || f.Errno != api.OK && !equal(s, api.System{}) {
				t.Fatalf("Parse(%q) is %v %v, want %v", prefix, s, f, want)
			}
		}
	}
}

func TestParsedTextsAreTheirTexts(t *testing.T) {
	source := rand.New(rand.NewSource(49))
	const letters = "\n\n 01ae2"
	parsed := 0
	for range 20000 {
		text, _ := Text(random(source))
		at := source.Intn(len(text) + 1)
		until := at + source.Intn(min(3, len(text)-at+1))
		changed := text[:at] + string(letters[source.Intn(len(letters))]) + text[until:]
		s, f := Parse(changed)
		if f.Errno != api.OK {
			continue
		}
		parsed++
		if back, g := Text(s); back != changed || g != (api.Fault{}) {
			t.Fatalf("Parse(%q) is %v, and its text %q %v", changed, s, back, g)
		}
	}
	if parsed == 0 {
		t.Error("no text was parsed")
	}
}
