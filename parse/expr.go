package parse

import (
	"foundry/api"
	"foundry/floats"
	"foundry/lex"
)

// Levels of operators of two: the higher, the tighter they hold.
const (
	lowest      = 1
	comparisons = 3
	highest     = 5
)

// operator: the operator of two that a mark is, and its level; zeros, if it is none.
func operator(mark string) (op, level int) {
	switch mark {
	case "||":
		return api.BOr, lowest
	case "&&":
		return api.BAnd, 2
	case "==":
		return api.BEq, comparisons
	case "!=":
		return api.BNe, comparisons
	case "<":
		return api.BLt, comparisons
	case "<=":
		return api.BLe, comparisons
	case ">":
		return api.BGt, comparisons
	case ">=":
		return api.BGe, comparisons
	case "+":
		return api.BAdd, 4
	case "-":
		return api.BSub, 4
	case "*":
		return api.BMul, highest
	case "/":
		return api.BDiv, highest
	case "%":
		return api.BRem, highest
	}
	return 0, 0
}

func (p *parser) expr() api.Expr {
	return p.ofTwo(lowest)
}

// lone: one expression, as a list.
func (p *parser) lone() []api.Expr {
	return []api.Expr{p.expr()}
}

// ofTwo: operators of that level and what they hold together; of one level they are taken from the left.
func (p *parser) ofTwo(level int) api.Expr {
	if level > highest {
		return p.unary()
	}
	e := p.ofTwo(level + 1)
	for {
		op, own := operator(p.next().Text)
		if own != level {
			return e
		}
		p.take()
		e = api.Expr{Kind: api.EBin, Op: op, Kids: []api.Expr{e, p.ofTwo(level + 1)}}
		if level == comparisons {
			// They do not follow one another.
			return e
		}
	}
}

func (p *parser) unary() api.Expr {
	switch {
	case p.is("-"):
		return p.signed("-", api.UNeg)
	case p.is("!"):
		return p.signed("!", api.UNot)
	}
	return p.primary()
}

func (p *parser) signed(mark string, op int) api.Expr {
	p.open(mark)
	e := ofOne(op, p.unary())
	p.depth--
	return e
}

func ofOne(op int, e api.Expr) api.Expr {
	return api.Expr{Kind: api.EUn, Op: op, Kids: []api.Expr{e}}
}

func (p *parser) primary() api.Expr {
	switch p.next().Kind {
	case lex.Int, lex.Float:
		return literal(p.take().Value)
	case lex.Name:
		e := p.reference()
		if p.is("(") {
			return p.call(e)
		}
		return e
	}
	switch {
	case p.has("true"):
		return literal(api.Value{Type: api.TBool, Bits: 1})
	case p.has("false"):
		return literal(api.Value{Type: api.TBool, Bits: 0})
	case p.is("inf"), p.is("nan"):
		bits, _ := floats.Parse(p.take().Text)
		return literal(api.Value{Type: api.TFloat, Bits: bits})
	case p.has("input"):
		return api.Expr{Kind: api.EInput}
	case p.has("int"):
		return ofOne(api.UInt, p.inside())
	case p.has("float"):
		return ofOne(api.UFloat, p.inside())
	}
	return p.inside()
}

func literal(v api.Value) api.Expr {
	return api.Expr{Kind: api.ELit, Value: v}
}

// inside: the expression in parentheses.
func (p *parser) inside() api.Expr {
	p.open("(")
	e := p.expr()
	p.shut(")")
	return e
}

// reference: a name of this module or of another one.
func (p *parser) reference() api.Expr {
	name := p.name()
	if p.has(".") {
		return api.Expr{Kind: api.EFar, Mod: name, Name: p.name()}
	}
	return api.Expr{Kind: api.EName, Name: name}
}

// call: the reference with the arguments that have to stand behind it.
func (p *parser) call(e api.Expr) api.Expr {
	if e.Kind == api.EFar {
		e.Kind = api.EFarCall
	} else {
		e.Kind = api.ECall
	}
	e.Kids = p.args()
	return e
}

func (p *parser) args() []api.Expr {
	if p.is("(") && p.tokens[1].Text == ")" {
		// With nothing in it, it opens nothing: it may stand at the greatest depth.
		p.must("(")
		p.must(")")
		return nil
	}
	p.open("(")
	l := row(p, api.MaxParams, (*parser).expr)
	p.shut(")")
	return l
}
