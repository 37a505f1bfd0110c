package predicate

import (
	"strings"

	"petrinet/api"
	"petrinet/net"
	"petrinet/nettext"
)

// Parse returns the predicate of a text, or a fault with the offset of a word.
func Parse(n api.Net, s string) (api.Formula, api.Fault) {
	if fault := net.Check(n); fault.Errno != api.OK {
		return api.Formula{}, api.Fault{Errno: fault.Errno}
	}
	if len(s) > api.MaxText {
		return api.Formula{}, api.Fault{Errno: api.ErrSize}
	}
	return parse(n, s)
}

// parse is Parse for a valid net and a text that is not too long.
func parse(n api.Net, s string) (f api.Formula, fault api.Fault) {
	defer func() {
		if first, ok := recover().(api.Fault); ok {
			f, fault = api.Formula{}, first
		}
	}()
	p := parser{net: n, text: s}
	f = p.part(1)
	p.require(p.next() == "", api.ErrSyntax)
	return f, api.Fault{}
}

// parser reads a text word by word. Its methods end it by a panic with a fault.
type parser struct {
	net  api.Net
	text string
	// word is the last word, which begins at the offset at.
	word string
	at   int
}

// next reads and returns the next word; an empty one at the end of the text.
func (p *parser) next() string {
	rest := p.text[p.at+len(p.word):]
	rest = strings.TrimLeft(rest, " ")
	p.at = len(p.text) - len(rest)
	end := strings.IndexFunc(rest, func(r rune) bool { return r == ' ' || r == '(' || r == ')' })
	switch end {
	case -1:
		end = len(rest)
	case 0:
		end = 1
	}
	p.word = rest[:end]
	return p.word
}

// require ends the parser at the last word with an error unless a condition holds.
func (p *parser) require(condition bool, e api.Errno) {
	if !condition {
		panic(api.Fault{Errno: e, At: p.at})
	}
}

// part reads a part on that level.
func (p *parser) part(level int) api.Formula {
	p.require(p.next() != "", api.ErrSyntax)
	p.require(level <= api.MaxDepth, api.ErrDepth)
	switch p.word {
	case trueWord:
		return api.Formula{Kind: api.True}
	case deadWord:
		return api.Formula{Kind: api.Dead}
	case firesWord:
		p.next()
		return api.Formula{Kind: api.Fires, N: p.named(net.Trans)}
	case notWord:
		return api.Formula{Kind: api.Not, Kids: []api.Formula{p.part(level + 1)}}
	case opening:
		return p.pair(level)
	}
	f := api.Formula{Kind: api.Atom, N: p.named(net.Place)}
	f.Rel = p.relation()
	f.Value = p.number()
	return f
}

// pair reads the rest of an And or Or on that level, after its parenthesis.
func (p *parser) pair(level int) api.Formula {
	f := api.Formula{Kind: api.And}
	first := p.part(level + 1)
	if p.next() == orWord {
		f.Kind = api.Or
	}
	p.require(p.word == pairWord(f.Kind), api.ErrSyntax)
	f.Kids = []api.Formula{first, p.part(level + 1)}
	p.require(p.next() == closing, api.ErrSyntax)
	return f
}

// named returns the index that the function finds for the last word, which must be a name.
func (p *parser) named(find func(n api.Net, name string) int) int {
	p.require(net.Name(p.word) && !reserved(p.word), api.ErrSyntax)
	i := find(p.net, p.word)
	p.require(i >= 0, api.ErrNone)
	return i
}

// reserved reports whether a word is never read as a name.
func reserved(word string) bool {
	switch word {
	case trueWord, firesWord, deadWord, notWord, andWord, orWord:
		return true
	}
	return false
}

func (p *parser) relation() int {
	switch p.next() {
	case leWord:
		return api.Le
	case geWord:
		return api.Ge
	}
	p.require(p.word == eqWord, api.ErrSyntax)
	return api.Eq
}

func (p *parser) number() int {
	value, ok := nettext.Number(p.next())
	p.require(ok, api.ErrSyntax)
	return value
}
