package script

import (
	"math/rand"
	"slices"
	"strconv"
	"strings"
	"testing"

	"petrinet/api"
	"petrinet/firing"
	"petrinet/marking"
	"petrinet/net"
	"petrinet/nettest"
	"petrinet/nettext"
)

type ends = [2][]int

// cycle moves its token from p to q and back.
const cycle = "net cycle\nplace p 1\nplace q 0\ntrans t\nin p\nout q\ntrans u\nin q\nout p\n"

// consumer is the net of the chapter's example.
const consumer = "net a\nplace p 1\ntrans t\nin p\n"

// producer fills q as long as p has its token, which stop takes.
const producer = "net b\nplace p 1\nplace q 0\ntrans go\nin p\nout p\nout q\ntrans stop\nin p\n"

// choice has two ways to its end, of which long has two steps; after dead, nothing may fire.
const choice = "net c\nplace i 1\nplace m 0\nplace o 0\nplace x 0\ntrans long\nin i\nout m\ntrans more\nin m\nout o\ntrans dead\nin i\nout x\n"

// flow is a workflow net with two parallel parts.
const flow = "net w\nplace i 0\nplace a 0\nplace b 0\nplace o 0\ntrans split\nin i\nout a\nout b\ntrans join\nin a\nin b\nout o\n"

// special has an inhibitor arc, a weight, a priority, a capacity, and a place without arcs.
const special = "net s\nplace p 3\nplace q 0 cap 4\nplace lone 2\ntrans t\nin p\nout p 2\ninh q\ntrans u prio 2\nin p 2\nout q 3\n"

// still has no transitions.
const still = "net still\nplace p 1\nplace q 0\n"

func parsed(t *testing.T, text string) api.Net {
	t.Helper()
	n, f := nettext.Parse(text)
	if f != (api.Fault{}) {
		t.Fatal(text, f)
	}
	return n
}

// full has a transition that would put too many tokens on its place.
func full() api.Net {
	n := nettest.Ordinary(1, ends{nil, {0}})
	n.Places[0].Init = api.MaxTokens
	return n
}

// chain has so many tokens on its place, which are taken one by one.
func chain(tokens int) api.Net {
	n := nettest.Ordinary(1, ends{{0}, nil})
	n.Places[0].Init = tokens
	return n
}

// counter counts in binary from start to 511, with two places for each of nine bits, and then stops: 511 - start events, none of which is a cut-off event.
func counter(start int) api.Net {
	const bits = 9
	var list []ends
	for i := range bits {
		t := ends{{2 * i}, {2*i + 1}}
		for low := range i {
			t[0] = append(t[0], 2*low+1)
			t[1] = append(t[1], 2*low)
		}
		slices.Sort(t[0])
		slices.Sort(t[1])
		list = append(list, t)
	}
	n := nettest.Ordinary(2*bits, list...)
	for i := range bits {
		n.Places[2*i+start>>i&1].Init = 1
	}
	return n
}

// grid is a sound workflow net whose coverability tree has 2000 nodes, and one more for each further transition to the end.
func grid(further int) api.Net {
	list := []ends{{{0}, {1, 3}}, {{1}, {2}}, {{3}, {4}}}
	for range 1 + further {
		list = append(list, ends{{2, 4}, {5}})
	}
	n := nettest.Ordinary(6, list...)
	n.Trans[0].Post = nettest.Arcs(1, 23, 3, 42)
	for t := 3; t < len(n.Trans); t++ {
		n.Trans[t].Pre = nettest.Arcs(2, 23, 4, 42)
	}
	return n
}

// stages has a token that goes round through stages, from each one by two transitions.
func stages(count int) api.Net {
	var list []ends
	for p := range count {
		to := (p + 1) % count
		list = append(list, ends{{p}, {to}}, ends{{p}, {to}})
	}
	return nettest.Marked(nettest.Ordinary(count, list...), 0)
}

// turned is a net with the places and transitions of another one exchanged.
func turned(n api.Net) api.Net {
	list := make([]ends, len(n.Places))
	for t, trans := range n.Trans {
		for _, a := range trans.Pre {
			list[a.Place][1] = append(list[a.Place][1], t)
		}
		for _, a := range trans.Post {
			list[a.Place][0] = append(list[a.Place][0], t)
		}
	}
	return nettest.Ordinary(len(n.Trans), list...)
}

func TestWords(t *testing.T) {
	want := []string{"bounds", "class", "cover", "deadlock", "fire", "invariants", "live", "print", "reach", "siphons", "sound", "states", "tree", "unfold"}
	words := Words()
	if !slices.Equal(words, want) || !slices.IsSorted(words) {
		t.Error(words)
	}
	clear(words)
	if words = Words(); !slices.Equal(words, want) {
		t.Error("a result shares memory with another one", words)
	}
}

// TestWordsAreCommands checks that Command knows exactly these words.
func TestWordsAreCommands(t *testing.T) {
	n := parsed(t, flow)
	known := 0
	for _, word := range Words() {
		for _, arguments := range []string{"", " 1,0,0,0", " 9"} {
			if report, e := Command(n, word+arguments); e == api.OK && report != "" {
				known++
			}
		}
	}
	// Each word has one number of arguments, and the kinds of arguments exclude each other.
	if known != len(Words()) {
		t.Error(known)
	}
}

// reportCases has nets, each followed by pairs of a command and its report, without the last line feed.
var reportCases = [][]string{
	{
		cycle,
		"bounds", "1 1",
		"class", "plain ordinary pure connected strong statemachine markedgraph freechoice asymmetric",
		"cover 0,1", "yes", "cover 1,0", "yes", "cover 0,0", "yes", "cover 1,1", "no", "cover 0,2", "no",
		"deadlock", "none",
		"fire", "1,0", "fire t", "0,1", "fire t u", "1,0", "fire t u t", "0,1",
		"invariants", "p p + q\nt 1 1",
		"live", "t u",
		"print", strings.TrimSuffix(cycle, "\n"),
		"reach 1,0", "yes -", "reach 0,1", "yes t", "reach 1,1", "no", "reach 0,0", "no",
		"siphons", "p q",
		"states 1", "states 1 edges 0 partial", "states 2", "states 2 edges 2 complete", "states 20000", "states 2 edges 2 complete",
		"tree", "3 0",
		"unfold", "3 2 1",
	},
	{
		consumer,
		"bounds", "1", "cover 1", "yes", "cover 2", "no", "deadlock", "t", "fire", "1", "fire t", "0", "invariants", "-", "live", "-",
		"reach 0", "yes t", "reach 1", "yes -", "reach 2", "no", "siphons", "p", "states 2", "states 2 edges 1 complete", "tree", "2 0", "unfold", "1 1 0",
	},
	{
		producer,
		"bounds", "1 w",
		"class", "plain ordinary connected freechoice asymmetric",
		"cover 1,9", "yes", "cover 0,500", "yes", "cover 2,0", "no",
		"fire go go stop", "0,2",
		"invariants", "-",
		"siphons", "p",
		"states 5", "states 5 edges 4 partial",
		"tree", "5 1",
	},
	{
		choice,
		"bounds", "1 1 1 1", "deadlock", "dead", "live", "-", "reach 0,0,1,0", "yes long more", "reach 0,1,0,0", "yes long", "reach 0,0,0,1", "yes dead",
		"fire long", "0,1,0,0", "fire long more", "0,0,1,0", "invariants", "p i + m + o + x", "siphons", "i", "states 4", "states 4 edges 3 complete", "tree", "4 0", "unfold", "4 3 0",
	},
	{
		// The initial marking of a workflow net does not matter for sound.
		flow,
		"sound", "sound", "bounds", "0 0 0 0", "deadlock", "-", "fire", "0,0,0,0", "live", "-", "unfold", "0 0 0", "states 1", "states 1 edges 0 complete",
		"invariants", "p i + a + o\np i + b + o", "siphons", "i", "tree", "1 0", "reach 0,0,0,0", "yes -", "cover 1,0,0,0", "no",
	},
	{
		special,
		"class", "-",
		"deadlock", "u",
		"fire u", "1,3,2",
		"live", "-",
		"print", strings.TrimSuffix(special, "\n"),
		"reach 1,3,2", "yes u", "reach 3,0,2", "yes -", "reach 4,0,2", "no",
		"siphons", "p\nlone",
		"states 3", "states 2 edges 1 complete",
	},
	{
		still,
		"bounds", "1 0", "cover 1,0", "yes", "cover 1,1", "no", "deadlock", "-", "fire", "1,0", "invariants", "p p\np q", "live", "-",
		"reach 1,0", "yes -", "reach 0,0", "no", "siphons", "p\nq", "states 1", "states 1 edges 0 complete", "tree", "1 0", "unfold", "1 0 0",
	},
	{
		// A net in which a place has no siphon, and no semiflow of either kind.
		"net p\nplace q 0\ntrans t\nout q 3\n",
		"siphons", "-", "invariants", "-", "bounds", "w", "tree", "3 1", "states 2", "states 2 edges 1 partial", "cover 7", "yes",
	},
	{
		// Semiflows of the transitions alone.
		"net t\nplace p 0\ntrans t\nout p 2\ntrans u\nin p\n",
		"invariants", "t 1 2",
	},
	{
		// Factors and siphons of several places, in the order of the places.
		"net f\nplace c 0\nplace b 2\nplace a 0\ntrans x\nin b 2\nout c\nout a 2\ntrans y\nin c\nin a\nout b 2\n",
		"invariants", "p 2*c + b", "siphons", "c b\nb a",
	},
	{
		// A workflow net with a choice that is joined by a parallel join.
		"net u\nplace i 1\nplace a 0\nplace b 0\nplace o 0\ntrans x\nin i\nout a\ntrans y\nin i\nout b\ntrans join\nin a\nin b\nout o\n",
		"sound", "unsound", "deadlock", "x",
	},
	{
		// A workflow net that is not bounded.
		"net u\nplace i 1\nplace a 0\nplace o 0\ntrans x\nin i\nout a\ntrans more\nin a\nout a 2\ntrans y\nin a\nout o\n",
		"sound", "unsound", "bounds", "1 w w",
	},
	{
		// Transitions with names that are also reports and commands.
		"net n\nplace p 1\nplace q 0\ntrans none\nin p\nout q\ntrans bounds\nin q\n",
		"deadlock", "none bounds", "fire none bounds", "0,0", "live", "-", "reach 0,0", "yes none bounds",
	},
}

func TestReports(t *testing.T) {
	for _, c := range reportCases {
		n := parsed(t, c[0])
		for i := 1; i < len(c); i += 2 {
			if report, e := Command(n, c[i]); e != api.OK || report != c[i+1]+"\n" {
				t.Errorf("%s of %s: %q %d", c[i], n.Name, report, e)
			}
			if report, f := Run(c[0], c[i]); f != (api.Fault{}) || report != c[i+1]+"\n" {
				t.Errorf("Run of %s of %s: %q %v", c[i], n.Name, report, f)
			}
		}
	}
}

// TestSpaces checks that the words of a line are those of nettext.Fields.
func TestSpaces(t *testing.T) {
	n := parsed(t, cycle)
	for _, line := range []string{"fire t u", " fire  t\tu ", "\tfire\tt u# t", "fire t u #", "fire t u#t u"} {
		if report, e := Command(n, line); e != api.OK || report != "1,0\n" {
			t.Errorf("%q: %q %d", line, report, e)
		}
	}
	if report, e := Command(n, "bounds#"); e != api.OK || report != "1 1\n" {
		t.Errorf("%q %d", report, e)
	}
}

// checkError checks that the command of a line returns this error, and no report.
func checkError(t *testing.T, n api.Net, line string, want api.Errno) {
	t.Helper()
	if report, e := Command(n, line); e != want || report != "" {
		t.Errorf("%q of %s: %q %d, not %d", line, n.Name, report, e, want)
	}
}

func TestSyntax(t *testing.T) {
	n := parsed(t, flow)
	for _, line := range []string{
		"", " \t", "#", " # bounds", "#bounds", "help", "Bounds", "bound", "boundss", "bounds\n", "\nbounds", "bounds\r", "bounds\v", "fire\n", "bounds\x00", "ä", "net w", "-", "t",
		"cover", "reach", "states", "cover # 0,0,0,0", "cover 0,0,0,0 0,0,0,0", "reach 0,0,0,0 x", "states 1 1", "states 1 complete",
	} {
		checkError(t, n, line, api.ErrSyntax)
	}
	one := []string{"cover", "reach", "states"}
	for _, word := range Words() {
		if word == "fire" {
			continue
		}
		if !slices.Contains(one, word) {
			checkError(t, n, word+" 1", api.ErrSyntax)
			checkError(t, n, word+" "+word, api.ErrSyntax)
		}
		checkError(t, n, word+" 1 2", api.ErrSyntax)
		checkError(t, n, word+" 1 2 3", api.ErrSyntax)
	}
	for _, m := range []string{"x", "0,0,0", "01,0,0,0", "0,0,0,0,", ",0,0,0", "0,0,0,-1", "+1,0,0,0", "1048577,0,0,0", "w,0,0,0", "0.0.0.0", "--"} {
		if m != "0,0,0" {
			checkError(t, n, "cover "+m, api.ErrSyntax)
			checkError(t, n, "reach "+m, api.ErrSyntax)
		}
		checkError(t, n, "states "+m, api.ErrSyntax)
	}
	for _, limit := range []string{"-", "-1", "01", "+1", "1.", "1048577", "99999999999999999999", "all", "0x1"} {
		checkError(t, n, "states "+limit, api.ErrSyntax)
	}
}

func TestErrorsOfTheNet(t *testing.T) {
	for _, c := range []struct {
		n    api.Net
		want api.Errno
	}{
		{api.Net{}, api.ErrName},
		{api.Net{Name: "n"}, api.ErrSize},
		{api.Net{Name: "n", Places: []api.Place{{Name: "p"}, {Name: "p"}}}, api.ErrTwice},
		{api.Net{Name: "n", Places: []api.Place{{Name: "p"}}, Trans: []api.Trans{{Name: "t", Pre: nettest.Arcs(1, 1)}}}, api.ErrNone},
		{api.Net{Name: "n", Places: []api.Place{{Name: "p", Init: -1}}}, api.ErrInit},
	} {
		for _, line := range append(Words(), "", "help", "cover 0", "cover x", "fire t", "fire x", "reach 0", "reach 0,0", "states 1", "states 0", "bounds 1") {
			checkError(t, c.n, line, c.want)
		}
	}
}

func TestErrorsOfArguments(t *testing.T) {
	n := parsed(t, producer)
	for line, want := range map[string]api.Errno{
		"states 0": api.ErrRange, "states 20001": api.ErrRange, "states 1048576": api.ErrRange,
		"cover 1": api.ErrSize, "cover 1,0,0": api.ErrSize, "cover -": api.ErrSize,
		// The size of the marking is examined before the state graph, which is not complete.
		"reach 1": api.ErrSize, "reach 1,0,0": api.ErrSize, "reach -": api.ErrSize, "reach x": api.ErrSyntax, "reach 1,0": api.ErrLimit,
		"fire p": api.ErrNone, "fire b": api.ErrNone, "fire go x": api.ErrNone, "fire GO": api.ErrNone, "fire -": api.ErrNone, "fire 0": api.ErrNone, "fire go,stop": api.ErrNone,
		"fire stop stop": api.ErrDead, "fire stop go": api.ErrDead,
		// The names are examined before anything fires.
		"fire stop stop x": api.ErrNone, "fire x stop stop": api.ErrNone,
	} {
		checkError(t, n, line, want)
	}
}

func TestErrorsOfKinds(t *testing.T) {
	n := parsed(t, special)
	for line, want := range map[string]api.Errno{
		"bounds": api.ErrKind, "cover 0,0,0": api.ErrKind, "cover 0,0": api.ErrKind, "cover x": api.ErrSyntax, "invariants": api.ErrKind, "sound": api.ErrKind, "tree": api.ErrKind, "unfold": api.ErrKind,
		"fire t": api.ErrDead, "reach 0,0": api.ErrSize,
	} {
		checkError(t, n, line, want)
	}
	checkError(t, parsed(t, cycle), "sound", api.ErrState)
	checkError(t, parsed(t, "net n\nplace p 2\n"), "unfold", api.ErrUnsafe)
	checkError(t, parsed(t, "net n\nplace p 1\nplace q 0\nplace r 1\ntrans t\nin p\nout q\ntrans u\nin r\nout q\n"), "unfold", api.ErrUnsafe)
	checkError(t, parsed(t, "net n\nplace p 0\ntrans t\nout p\n"), "unfold", api.ErrKind)
	checkError(t, nettest.Ordinary(13), "siphons", api.ErrSize)
	if report, e := Command(nettest.Ordinary(12), "siphons"); e != api.OK || strings.Count(report, "\n") != 12 {
		t.Error(report, e)
	}
}

func TestErrOver(t *testing.T) {
	for _, line := range []string{"bounds", "deadlock", "fire t0", "live", "reach 0", "states 1", "tree"} {
		checkError(t, full(), line, api.ErrOver)
	}
	for _, line := range []string{"cover 0", "fire", "invariants", "siphons"} {
		if report, e := Command(full(), line); e != api.OK || report == "" {
			t.Error(line, report, e)
		}
	}
}

// checkLimit checks that a command has the report for one net, and ErrLimit for another one.
func checkLimit(t *testing.T, line string, within, beyond api.Net, want string) {
	t.Helper()
	if report, e := Command(within, line); e != api.OK || report != want+"\n" {
		t.Errorf("%s: %q %d", line, report, e)
	}
	checkError(t, beyond, line, api.ErrLimit)
}

func TestLimits(t *testing.T) {
	long := strings.TrimSuffix(strings.Repeat("t0 ", 1999), " ")
	checkLimit(t, "bounds", chain(1999), chain(2000), "1999")
	checkLimit(t, "tree", chain(1999), chain(2000), "2000 0")
	checkLimit(t, "deadlock", chain(1999), chain(2000), long)
	checkLimit(t, "live", chain(1999), chain(2000), "-")
	checkLimit(t, "reach 1999", chain(1999), chain(2000), "yes -")
	checkLimit(t, "reach 0", chain(1999), chain(2000), "yes "+long)
	checkLimit(t, "reach 2000", chain(1999), chain(2000), "no")
	checkLimit(t, "sound", grid(0), grid(1), "sound")
	checkLimit(t, "unfold", counter(11), counter(10), strconv.Itoa(9+outputs(counter(11)))+" 500 0")
	// To cover so many tokens on the second place, each number of them may be on the first one: one element more than tokens.
	move := nettest.Ordinary(2, ends{{0}, {1}})
	if report, e := Command(move, "cover 0,999"); e != api.OK || report != "no\n" {
		t.Error(report, e)
	}
	checkError(t, move, "cover 0,1000", api.ErrLimit)
	// The graph of states is not that of a limit of its own.
	if report, e := Command(chain(2000), "states 2000"); e != api.OK || report != "states 2000 edges 1999 partial\n" {
		t.Error(report, e)
	}
}

// outputs returns how many tokens are produced until a net with one firing sequence stops.
func outputs(n api.Net) int {
	m, count := net.Initial(n), 0
	for {
		list := firing.List(n, m)
		if len(list) == 0 {
			return count
		}
		count += len(n.Trans[list[0]].Post)
		m, _ = firing.Fire(n, m, list[0])
	}
}

// TestLimitOfSemiflows checks the errors of both computations of semiflows.
func TestLimitOfSemiflows(t *testing.T) {
	n := stages(4)
	var want strings.Builder
	want.WriteString("p p0 + p1 + p2 + p3\n")
	for choice := range 16 {
		want.WriteString("t")
		for stage := range 4 {
			second := choice >> (3 - stage) & 1
			want.WriteString(" " + strconv.Itoa(1-second) + " " + strconv.Itoa(second))
		}
		want.WriteString("\n")
	}
	if report, e := Command(n, "invariants"); e != api.OK || report != want.String() {
		t.Error(report, e)
	}
	checkError(t, stages(12), "invariants", api.ErrLimit)
	checkError(t, turned(stages(12)), "invariants", api.ErrLimit)
}

func TestExample(t *testing.T) {
	if report, f := Run(consumer, "deadlock\nreach 0\nfire\ntree\nbounds\n"); f != (api.Fault{}) || report != "t\nyes t\n1\n2 0\n1\n" {
		t.Errorf("%q %v", report, f)
	}
}

func TestRun(t *testing.T) {
	for commands, want := range map[string]string{
		"":                                  "",
		"\n\n":                              "",
		"# nothing\n \t\n":                  "",
		"bounds":                            "1 1\n",
		"bounds\n":                          "1 1\n",
		"\n\tbounds # all\n\n# x\n fire  t": "1 1\n0,1\n",
		"print\nprint\n":                    cycle + cycle,
		"live\ninvariants\nlive":            "t u\np p + q\nt 1 1\nt u\n",
		"siphons\n\nreach 0,1\nreach 1,1\n": "p q\nyes t\nno\n",
	} {
		if report, f := Run(cycle, commands); f != (api.Fault{}) || report != want {
			t.Errorf("%q: %q %v", commands, report, f)
		}
	}
}

func TestFaults(t *testing.T) {
	long := strings.Repeat("#", api.MaxText+1)
	for _, c := range []struct {
		net, commands string
		want          api.Fault
	}{
		{"", "bounds", api.Fault{Errno: api.ErrEmpty}},
		{"", "help", api.Fault{Errno: api.ErrEmpty}},
		{"", long, api.Fault{Errno: api.ErrEmpty}},
		{"net a\nplace p x\n", "bounds", api.Fault{Errno: api.ErrSyntax, At: 2}},
		{"net a\nplace p x\n", "\x00", api.Fault{Errno: api.ErrSyntax, At: 2}},
		{"net a\n", "bounds", api.Fault{Errno: api.ErrSize, At: 1}},
		{cycle, long, api.Fault{Errno: api.ErrSize}},
		{cycle, "help\n" + strings.Repeat("\n", api.MaxLines), api.Fault{Errno: api.ErrSize}},
		{cycle, "help\n\nbounds\r\n", api.Fault{Errno: api.ErrSyntax, At: 3}},
		{cycle, "bounds\nlive \xff", api.Fault{Errno: api.ErrSyntax, At: 2}},
		{cycle, "help", api.Fault{Errno: api.ErrSyntax, At: 1}},
		{cycle, "bounds\n\n# x\nfire x\nhelp", api.Fault{Errno: api.ErrNone, At: 4}},
		{cycle, "bounds\nfire u\nfire x", api.Fault{Errno: api.ErrDead, At: 2}},
		{cycle, "bounds\nfire t t", api.Fault{Errno: api.ErrDead, At: 2}},
		{cycle, "reach 1\n", api.Fault{Errno: api.ErrSize, At: 1}},
		{cycle, strings.Repeat("\n", api.MaxLines-1) + "sound", api.Fault{Errno: api.ErrState, At: api.MaxLines}},
		{producer, "tree\ndeadlock\ntree", api.Fault{Errno: api.ErrLimit, At: 2}},
	} {
		if report, f := Run(c.net, c.commands); f != c.want || report != "" {
			t.Errorf("%.40q %.40q: %q %v, not %v", c.net, c.commands, report, f, c.want)
		}
	}
	if report, f := Run(cycle, strings.Repeat("fire\n", api.MaxLines)); f != (api.Fault{}) || report != strings.Repeat("1,0\n", api.MaxLines) {
		t.Error(len(report), f)
	}
}

// randomNet returns a net with few states, which is plain for even seeds.
func randomNet(seed uint64) api.Net {
	shape := nettest.Shape{Places: 4, Trans: 4, Tokens: 2, Weight: 2}
	if seed%2 == 1 {
		shape.Cap, shape.Inh, shape.Prio = 3, 3, 1
	}
	return nettest.Random(seed, shape)
}

// randomLine returns a line that is often a command of the net.
func randomLine(r *rand.Rand, n api.Net) string {
	word := Words()[r.Intn(len(Words()))]
	switch word {
	case "cover", "reach":
		m := net.Initial(n)
		for p := range m {
			m[p] = r.Intn(3)
		}
		return word + " " + marking.Text(m)
	case "states":
		return word + " " + strconv.Itoa(1+r.Intn(50))
	case "fire":
		for range r.Intn(3) {
			if len(n.Trans) > 0 {
				word += " " + n.Trans[r.Intn(len(n.Trans))].Name
			}
		}
	}
	return word
}

// TestConcatenation checks that the report of two lists of commands is that of both, on random nets.
func TestConcatenation(t *testing.T) {
	r := rand.New(rand.NewSource(1))
	joined := 0
	for seed := range uint64(300) {
		n := randomNet(seed)
		text, f := nettext.Print(n)
		if f != (api.Fault{}) {
			t.Fatal(f)
		}
		var lists, reports [2]string
		for i := range lists {
			for range 1 + r.Intn(4) {
				line := randomLine(r, n)
				if report, e := Command(n, line); e == api.OK {
					lists[i] += line + "\n"
					reports[i] += report
				}
			}
			if report, f := Run(text, lists[i]); f != (api.Fault{}) || report != reports[i] {
				t.Fatal(text, lists[i], report, f)
			}
		}
		for _, between := range []string{"", "\n"} {
			if report, f := Run(text, lists[0]+between+lists[1]); f != (api.Fault{}) || report != reports[0]+reports[1] {
				t.Fatal(text, lists, report, f)
			}
		}
		if report, f := Run(text, strings.TrimSuffix(lists[0], "\n")+"\n"+lists[1]); f != (api.Fault{}) || report != reports[0]+reports[1] {
			t.Fatal(text, lists, report, f)
		}
		if reports[0] != "" && reports[1] != "" {
			joined++
		}
	}
	if joined < 100 {
		t.Error("too few reports", joined)
	}
}

// TestReachedIsCovered checks, on random nets, that a marking that is reached is covered and that the reported names lead to it.
func TestReachedIsCovered(t *testing.T) {
	r := rand.New(rand.NewSource(2))
	reached := 0
	for seed := range uint64(600) {
		n := randomNet(seed)
		m := net.Initial(n)
		for p := range m {
			m[p] = r.Intn(3)
		}
		report, e := Command(n, "reach "+marking.Text(m))
		names, ok := strings.CutPrefix(report, "yes ")
		if e != api.OK || !ok {
			continue
		}
		reached++
		names = strings.TrimSuffix(strings.TrimSuffix(names, "\n"), "-")
		if after, e := Command(n, "fire "+names); e != api.OK || after != marking.Text(m)+"\n" {
			t.Fatal(n, m, report, after, e)
		}
		if covered, e := Command(n, "cover "+marking.Text(m)); e == api.OK && covered != "yes\n" {
			t.Fatal(n, m, covered)
		}
	}
	if reached < 50 {
		t.Error("too few markings", reached)
	}
}

// TestDeadlockIsDead checks, on random nets, that the names which deadlock reports can be fired, and that nothing may fire afterwards.
func TestDeadlockIsDead(t *testing.T) {
	kinds := map[string]int{}
	for seed := range uint64(400) {
		n := randomNet(seed)
		report, e := Command(n, "deadlock")
		if e != api.OK {
			continue
		}
		names := strings.TrimSuffix(report, "\n")
		switch names {
		case "none":
			kinds[names]++
			markings, all := nettest.Reachable(n, 2000)
			if !all || slices.ContainsFunc(markings, func(m []int) bool { return firing.Dead(n, m) }) {
				t.Fatal(n, report)
			}
			continue
		case "-":
			names = ""
		default:
			kinds["some"]++
		}
		after, e := Command(n, "fire "+names)
		m, parsed := marking.Parse(strings.TrimSuffix(after, "\n"))
		if e != api.OK || parsed != api.OK || !firing.Dead(n, m) {
			t.Fatal(n, report, after, e)
		}
	}
	if kinds["none"] < 20 || kinds["some"] < 20 {
		t.Error("too few nets", kinds)
	}
}

// TestPrinted checks that the report of print is a text of the net.
func TestPrinted(t *testing.T) {
	for seed := range uint64(100) {
		n := randomNet(seed)
		report, e := Command(n, "print")
		again, f := nettext.Parse(report)
		if e != api.OK || f != (api.Fault{}) || !net.Same(n, again) {
			t.Fatal(n, report, e, f)
		}
	}
}

// TestArbitraryArguments checks that a call returns a report of full lines, or an error alone.
func TestArbitraryArguments(t *testing.T) {
	r := rand.New(rand.NewSource(3))
	pieces := append(Words(), " ", "\t", "#", "\n", "\x00", "\xff", "-", "0", "1,1", "t0", "t1", "99999999999", ",", "p0", " 1,0", " 7", "fire ", "reach ", "cover ", "states ")
	for seed := range uint64(3000) {
		n := randomNet(seed % 50)
		var line string
		for range r.Intn(5) {
			line += pieces[r.Intn(len(pieces))]
		}
		report, e := Command(n, line)
		if (e == api.OK) != strings.HasSuffix(report, "\n") || e != api.OK && report != "" {
			t.Fatalf("%q: %q %d", line, report, e)
		}
		if !net.Same(n, randomNet(seed%50)) {
			t.Fatal("an argument is changed", line)
		}
		text, f := Run(line, line)
		if f == (api.Fault{}) || text != "" {
			t.Fatalf("%q: %q %v", line, text, f)
		}
	}
}
