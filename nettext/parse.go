package nettext

import (
	"slices"

	"petrinet/api"
	"petrinet/net"
)

// Parse returns the net of a text, or a fault with the number of a line.
func Parse(s string) (api.Net, api.Fault) {
	lines, f := Lines(s)
	if f.Errno != api.OK {
		return api.Net{}, f
	}
	return parse(s, len(lines))
}

// parse is Parse for a text of permitted bytes with that many lines.
func parse(s string, lines int) (n api.Net, f api.Fault) {
	defer func() {
		if fault, ok := recover().(api.Fault); ok {
			n, f = api.Net{}, fault
		}
	}()
	p := parser{places: map[string]int{}, taken: map[string]bool{}}
	for number, line := range numbered(s) {
		p.line = number
		if words := Fields(line); len(words) > 0 {
			p.read(words)
		}
	}
	if !p.started {
		return api.Net{}, api.Fault{Errno: api.ErrEmpty}
	}
	p.line = lines
	p.require(net.Check(p.net).Errno)
	return p.net, api.Fault{}
}

// parser collects a net from the words of its lines. Its methods end it by a panic with a fault.
type parser struct {
	net     api.Net
	line    int
	started bool
	// places has the index of each place, taken the names of all places and transitions.
	places map[string]int
	taken  map[string]bool
	// last is the kind of the last arc line of the last transition.
	last int
}

// require ends the parser if there is an error.
func (p *parser) require(e api.Errno) {
	if e != api.OK {
		panic(api.Fault{Errno: e, At: p.line})
	}
}

// syntax ends the parser unless the syntax is right.
func (p *parser) syntax(right bool) {
	if !right {
		p.require(api.ErrSyntax)
	}
}

// read adds a line that has words.
func (p *parser) read(words []string) {
	p.syntax(p.started == (words[0] != netWord))
	kind := slices.Index([]string{inWord, outWord, inhWord}, words[0])
	switch {
	case words[0] == netWord:
		p.readNet(words)
	case words[0] == placeWord:
		p.readPlace(words)
	case words[0] == transWord:
		p.readTrans(words)
	case kind >= 0:
		p.readArc(kind, words)
	default:
		p.require(api.ErrSyntax)
	}
}

func (p *parser) readNet(words []string) {
	p.syntax(len(words) == 2)
	p.name(words[1])
	p.started, p.net.Name = true, words[1]
}

func (p *parser) readPlace(words []string) {
	p.syntax(len(p.net.Trans) == 0 && len(words) >= 3)
	init, capacity := p.number(words[2]), p.option(words[3:], capWord)
	p.claim(words[1])
	p.places[words[1]] = len(p.net.Places)
	p.net.Places = append(p.net.Places, api.Place{Name: words[1], Init: init, Cap: capacity})
}

func (p *parser) readTrans(words []string) {
	p.syntax(len(words) >= 2)
	priority := p.option(words[2:], prioWord)
	p.claim(words[1])
	p.last = 0
	p.net.Trans = append(p.net.Trans, api.Trans{Name: words[1], Prio: priority})
}

func (p *parser) readArc(kind int, words []string) {
	p.syntax(len(p.net.Trans) > 0 && kind >= p.last && (len(words) == 2 || len(words) == 3))
	p.last = kind
	weight := 1
	if len(words) == 3 {
		weight = p.number(words[2])
	}
	place, ok := p.places[words[1]]
	if !ok {
		p.require(api.ErrNone)
	}
	t := &p.net.Trans[len(p.net.Trans)-1]
	list := [...]*[]api.Arc{&t.Pre, &t.Post, &t.Inh}[kind]
	if n := len(*list); n > 0 && (*list)[n-1].Place >= place {
		p.require(api.ErrOrder)
	}
	*list = append(*list, api.Arc{Place: place, W: weight})
}

// number returns the number that a word denotes.
func (p *parser) number(word string) int {
	n, ok := Number(word)
	p.syntax(ok)
	return n
}

// option returns the number after the given word, or 0 if there are no words.
func (p *parser) option(words []string, before string) int {
	if len(words) == 0 {
		return 0
	}
	p.syntax(len(words) == 2 && words[0] == before)
	return p.number(words[1])
}

func (p *parser) name(word string) {
	if !net.Name(word) {
		p.require(api.ErrName)
	}
}

// claim checks the name of a place or transition, and keeps it.
func (p *parser) claim(word string) {
	p.name(word)
	if p.taken[word] {
		p.require(api.ErrTwice)
	}
	p.taken[word] = true
}
