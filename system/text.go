package system

import (
	"strconv"
	"strings"

	"petrinet/api"
)

// The words that lines begin with.
const (
	statesWord = "states"
	eventWord  = "event"
)

// Text returns a line for the number of states, for each event and for each arc, or the fault of Check.
func Text(s api.System) (string, api.Fault) {
	if f := Check(s); f.Errno != api.OK {
		return "", f
	}
	var text strings.Builder
	line := func(words ...string) {
		text.WriteString(strings.Join(words, " "))
		text.WriteByte('\n')
	}
	line(statesWord, strconv.Itoa(s.States))
	for _, event := range s.Events {
		line(eventWord, event)
	}
	for _, a := range s.Arcs {
		line(strconv.Itoa(a.From), s.Events[a.Trans], strconv.Itoa(a.To))
	}
	return text.String(), api.Fault{}
}

// Parse returns the system whose Text is t, or a fault.
func Parse(t string) (api.System, api.Fault) {
	if len(t) > api.MaxText {
		return api.System{}, api.Fault{Errno: api.ErrSize}
	}
	s, faulty := readLines(t)
	if faulty > 0 {
		return api.System{}, api.Fault{Errno: api.ErrSyntax, At: faulty}
	}
	if f := Check(s); f.Errno != api.OK {
		return api.System{}, f
	}
	return s, api.Fault{}
}

// readLines returns the system of a text, and 0 or the number of the first line that is not permitted.
func readLines(t string) (api.System, int) {
	var r reader
	at := 0
	for line := range strings.Lines(t) {
		at++
		// A line feed ends each line, also the last one: Text would not write a line without it.
		content, ended := strings.CutSuffix(line, "\n")
		if !ended || !r.read(words(content)) {
			return api.System{}, at
		}
	}
	if !r.started {
		// The empty text has no lines at all; its line 1 is the one that is missing.
		return api.System{}, 1
	}
	return r.system, 0
}

// words returns the parts of a line between its spaces.
func words(line string) []string {
	var list []string
	start := 0
	for i, r := range line {
		if r == ' ' {
			list = append(list, line[start:i])
			start = i + 1
		}
	}
	return append(list, line[start:])
}

// reader collects a system from the words of its lines.
type reader struct {
	system  api.System
	started bool
	// index has the first event of each name; a text may repeat names.
	index map[string]int
}

// read adds a line, and reports whether it has a permitted form.
func (r *reader) read(words []string) bool {
	switch {
	case !r.started:
		return r.readStates(words)
	case len(words) == 2:
		return r.readEvent(words)
	case len(words) == 3:
		return r.readArc(words)
	}
	return false
}

func (r *reader) readStates(words []string) bool {
	if len(words) != 2 || words[0] != statesWord {
		return false
	}
	r.started, r.index = true, map[string]int{}
	var ok bool
	r.system.States, ok = number(words[1])
	return ok
}

func (r *reader) readEvent(words []string) bool {
	name := words[1]
	if words[0] != eventWord || name == "" || len(r.system.Arcs) > 0 {
		return false
	}
	if _, ok := r.index[name]; !ok {
		r.index[name] = len(r.system.Events)
	}
	r.system.Events = append(r.system.Events, name)
	return true
}

func (r *reader) readArc(words []string) bool {
	from, fits := number(words[0])
	event, found := r.index[words[1]]
	to, ok := number(words[2])
	r.system.Arcs = append(r.system.Arcs, api.Edge{From: from, Trans: event, To: to})
	return fits && found && ok
}

// number returns the number from 0 to MaxTokens with that numeral, and whether there is one.
func number(numeral string) (int, bool) {
	n, err := strconv.Atoi(numeral)
	if err != nil || n < 0 || n > api.MaxTokens || strconv.Itoa(n) != numeral {
		return 0, false
	}
	return n, true
}
