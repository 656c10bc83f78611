package parse

import (
	"foundry/api"
	"foundry/lex"
)

// parser goes through the tokens of a text from the left, and gives up at the first one that is wrong, so that the error with the least place is the one that is told.
type parser struct {
	tokens []lex.Token // what is not taken yet; the last one stands for the end and is never taken
	depth  int         // how deep the next token stands
	full   bool        // the next token would begin one more than there may be
}

// fault is what gives up: a type of its own tells it from all else that may panic.
type fault struct {
	at   int
	code api.Errno
}

func newParser(tokens []lex.Token, end int) *parser {
	// No kind and no text: nothing in the grammar takes it.
	return &parser{tokens: append(tokens, lex.Token{At: end})}
}

// fault: the next token is wrong.
func (p *parser) fault(code api.Errno) fault {
	return fault{p.next().At, code}
}

func (p *parser) next() lex.Token {
	return p.tokens[0]
}

func (p *parser) atEnd() bool {
	return len(p.tokens) == 1
}

func (p *parser) mustEnd() {
	if !p.atEnd() {
		panic(p.fault(api.ErrSyntax))
	}
}

// take: the next token, which the grammar takes there and which is not too deep. That it begins one too many is told last, since at one place the other errors come ahead.
func (p *parser) take() lex.Token {
	if p.full {
		panic(p.fault(api.ErrBig))
	}
	t := p.next()
	p.tokens = p.tokens[1:]
	return t
}

// is: is the next token that word or mark? No token of another kind has its text.
func (p *parser) is(text string) bool {
	return p.next().Text == text
}

// has takes the next token, if it is that word or mark.
func (p *parser) has(text string) bool {
	if !p.is(text) {
		return false
	}
	p.take()
	return true
}

// must takes the next token, which has to be that word or mark.
func (p *parser) must(text string) {
	if !p.has(text) {
		panic(p.fault(api.ErrSyntax))
	}
}

func (p *parser) name() string {
	if p.next().Kind != lex.Name {
		panic(p.fault(api.ErrSyntax))
	}
	return p.take().Text
}

// open takes the mark, behind which all is one deeper.
func (p *parser) open(mark string) {
	if p.is(mark) && p.depth == api.MaxDepth {
		panic(p.fault(api.ErrDeep))
	}
	p.must(mark)
	p.depth++
}

// shut takes the mark that ends what was opened.
func (p *parser) shut(mark string) {
	p.must(mark)
	p.depth--
}

// more: the list with one more behind it, of which there may be only so many.
func more[T any](p *parser, l []T, most int, one func(*parser) T) []T {
	p.full = len(l) == most
	return append(l, one(p))
}

// row: one or more of them, with commas between.
func row[T any](p *parser, most int, one func(*parser) T) []T {
	l := more(p, nil, most, one)
	for p.has(",") {
		l = more(p, l, most, one)
	}
	return l
}
