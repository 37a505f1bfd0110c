package script

import (
	"strconv"
	"strings"

	"petrinet/api"
	"petrinet/backward"
	"petrinet/behave"
	"petrinet/bitset"
	"petrinet/explore"
	"petrinet/firing"
	"petrinet/invariant"
	"petrinet/karpmiller"
	"petrinet/marking"
	"petrinet/mincover"
	"petrinet/net"
	"petrinet/netclass"
	"petrinet/nettext"
	"petrinet/omega"
	"petrinet/prefix"
	"petrinet/semiflow"
	"petrinet/siphon"
	"petrinet/soundness"
	"petrinet/witness"
)

// The limits of the analyses: of coverability trees, state graphs and soundness, of backward analysis, and of prefixes.
const (
	stateLimit  = 2000
	basisLimit  = 1000
	prefixLimit = 500
)

// bounds writes the greatest number of tokens of each place.
func bounds(n api.Net, line writer) api.Errno {
	set, complete, e := mincover.Set(n, stateLimit)
	if e = finished(complete, e); e != api.OK {
		return e
	}
	var words []string
	for _, bound := range mincover.Bounds(set) {
		words = append(words, omega.Text([]int{bound}))
	}
	line(words...)
	return api.OK
}

// finished returns the error of an analysis, or ErrLimit if its result is not complete.
func finished(complete bool, e api.Errno) api.Errno {
	if e == api.OK && !complete {
		return api.ErrLimit
	}
	return e
}

// class writes the structural classes of the net.
func class(n api.Net, line writer) api.Errno {
	line(netclass.Words(n)...)
	return api.OK
}

// cover writes whether the marking can be covered.
func cover(n api.Net, argument string, line writer) api.Errno {
	m, e := marking.Parse(argument)
	if e != api.OK {
		return e
	}
	coverable, e := backward.Coverable(n, [][]int{m}, basisLimit)
	if e != api.OK {
		return e
	}
	line(either(coverable, "yes", "no"))
	return api.OK
}

// either returns the first word if the condition holds, and otherwise the second one.
func either(condition bool, first, second string) string {
	if condition {
		return first
	}
	return second
}

// stateGraph returns the complete state graph.
func stateGraph(n api.Net) (api.Graph, api.Errno) {
	g, e := explore.Explore(n, stateLimit)
	return g, finished(g.Complete, e)
}

// deadlock writes a shortest firing sequence after which no transition may fire.
func deadlock(n api.Net, line writer) api.Errno {
	g, e := stateGraph(n)
	if e != api.OK {
		return e
	}
	sequence, ok := witness.Dead(g)
	if !ok {
		line("none")
		return api.OK
	}
	line(names(n, sequence)...)
	return api.OK
}

// names returns the names of transitions that the net has.
func names(n api.Net, transitions []int) []string {
	words, _ := firing.Names(n, transitions)
	return words
}

// fire writes the marking after the transitions with these names.
func fire(n api.Net, arguments []string, line writer) api.Errno {
	var sequence []int
	for _, name := range arguments {
		t := net.Trans(n, name)
		if t < 0 {
			return api.ErrNone
		}
		sequence = append(sequence, t)
	}
	m, f := firing.Run(n, net.Initial(n), sequence)
	if f.Errno != api.OK {
		return f.Errno
	}
	line(marking.Text(m))
	return api.OK
}

// invariants writes the minimal semiflows, those of the places as sums of their names.
func invariants(n api.Net, line writer) api.Errno {
	places, e := semiflow.Places(n)
	if e != api.OK {
		return e
	}
	for _, y := range places {
		text, e := invariant.Text(n, y)
		if e != api.OK {
			return e
		}
		line("p", text)
	}
	transitions, e := semiflow.Trans(n)
	if e != api.OK {
		return e
	}
	for _, x := range transitions {
		line("t", list(numerals(x...)))
	}
	if len(places) == 0 && len(transitions) == 0 {
		line()
	}
	return api.OK
}

// numerals returns numbers in decimal.
func numerals[T int | int64](numbers ...T) []string {
	words := make([]string, len(numbers))
	for i, x := range numbers {
		words[i] = strconv.FormatInt(int64(x), 10)
	}
	return words
}

// live writes the live transitions.
func live(n api.Net, line writer) api.Errno {
	g, e := stateGraph(n)
	if e != api.OK {
		return e
	}
	line(names(n, behave.Live(n, g))...)
	return api.OK
}

// netText writes the text of the net.
func netText(n api.Net, line writer) api.Errno {
	text, f := nettext.Print(n)
	if f.Errno != api.OK {
		return f.Errno
	}
	for full := range strings.Lines(text) {
		line(strings.TrimSuffix(full, "\n"))
	}
	return api.OK
}

// reach writes whether the marking can be reached, and by which shortest firing sequence.
func reach(n api.Net, argument string, line writer) api.Errno {
	m, e := marking.Parse(argument)
	if e != api.OK {
		return e
	}
	if len(m) != len(n.Places) {
		return api.ErrSize
	}
	g, e := stateGraph(n)
	if e != api.OK {
		return e
	}
	sequence, ok := witness.To(g, explore.Find(g, m))
	if !ok {
		line("no")
		return api.OK
	}
	line("yes", list(names(n, sequence)))
	return api.OK
}

// siphons writes the minimal siphons.
func siphons(n api.Net, line writer) api.Errno {
	sets, e := siphon.Siphons(n)
	if e != api.OK {
		return e
	}
	for _, set := range sets {
		var words []string
		for _, p := range bitset.List(set) {
			words = append(words, n.Places[p].Name)
		}
		line(words...)
	}
	if len(sets) == 0 {
		line()
	}
	return api.OK
}

// sound writes whether the workflow net is sound.
func sound(n api.Net, line writer) api.Errno {
	holds, e := soundness.Sound(n, stateLimit)
	if e != api.OK {
		return e
	}
	line(either(holds, "sound", "unsound"))
	return api.OK
}

// states writes the size of the state graph, or of the part of it that the limit permits.
func states(n api.Net, argument string, line writer) api.Errno {
	limit, ok := nettext.Number(argument)
	if !ok {
		return api.ErrSyntax
	}
	g, e := explore.Explore(n, limit)
	if e != api.OK {
		return e
	}
	first, _, _ := strings.Cut(explore.Text(n, g), "\n")
	line(first)
	return api.OK
}

// tree writes the number of nodes of the coverability tree, and that of the places that are not bounded.
func tree(n api.Net, line writer) api.Errno {
	nodes, complete, e := karpmiller.Tree(n, stateLimit)
	if e = finished(complete, e); e != api.OK {
		return e
	}
	line(numerals(len(nodes), len(karpmiller.Unbounded(nodes)))...)
	return api.OK
}

// unfold writes the size of the prefix of the unfolding.
func unfold(n api.Net, line writer) api.Errno {
	b, e := prefix.Build(n, prefixLimit)
	if e != api.OK {
		return e
	}
	line(numerals(prefix.Size(b))...)
	return api.OK
}
