package tree_test

import (
	"foundry/api"
	"foundry/floats"
	"foundry/lex"
)

// reader takes a text apart by chapter 7's grammar, and counts the depth as it is said there of tokens. It is only given texts of modules that are right.
type reader struct {
	tokens     []lex.Token
	depth, top int
	mods       []string // what stands ahead of points
}

func readModule(text string) (api.Module, *reader) {
	l, _, _ := lex.Lex(text)
	r := &reader{tokens: l}
	m := api.Module{}
	r.take() // module
	m.Name = r.take()
	r.take() // ;
	for r.is("import") {
		m.Imports = append(m.Imports, r.take())
		r.take() // ;
	}
	for len(r.tokens) > 0 {
		m.Decls = append(m.Decls, r.decl())
	}
	return m, r
}

// next: the text of the next token; with an end behind the last.
func (r *reader) next() string {
	if len(r.tokens) == 0 {
		return ""
	}
	return r.tokens[0].Text
}

func (r *reader) take() string {
	s := r.next()
	if s == "" {
		panic("the text ends too early")
	}
	r.tokens = r.tokens[1:]
	return s
}

// is takes the next token, if it is that one.
func (r *reader) is(s string) bool {
	if r.next() != s {
		return false
	}
	r.take()
	return true
}

// must takes the next token, which has to be that one.
func (r *reader) must(s string) {
	if !r.is(s) {
		panic("no " + s + " ahead of " + r.next())
	}
}

func (r *reader) deeper(do func()) {
	r.depth++
	r.top = max(r.top, r.depth)
	do()
	r.depth--
}

func (r *reader) typ() int {
	if !r.is(":") {
		return api.TNone
	}
	switch r.take() {
	case "int":
		return api.TInt
	case "float":
		return api.TFloat
	case "bool":
		return api.TBool
	}
	panic("no type")
}

func (r *reader) decl() api.Decl {
	d := api.Decl{Export: r.is("export")}
	switch r.take() {
	case "const":
		d.Kind = api.DConst
	case "var":
		d.Kind = api.DVar
	case "fn":
		d.Kind = api.DFn
	default:
		panic("no declaration")
	}
	d.Name = r.take()
	if d.Kind != api.DFn {
		d.Type = r.typ()
		r.must("=")
		d.E = []api.Expr{r.expr(1)}
		r.must(";")
		return d
	}
	r.must("(")
	for !r.is(")") {
		d.Params = append(d.Params, api.Param{Name: r.take(), Type: r.typ()})
		r.is(",")
	}
	d.Type = r.typ()
	d.Body = r.block()
	return d
}

func (r *reader) block() (l []api.Stmt) {
	r.must("{")
	r.deeper(func() {
		for !r.is("}") {
			l = append(l, r.stmt())
		}
	})
	return l
}

func (r *reader) stmt() api.Stmt {
	one := func(s api.Stmt) api.Stmt {
		s.E = []api.Expr{r.expr(1)}
		return s
	}
	ended := func(s api.Stmt) api.Stmt {
		r.must(";")
		return s
	}
	switch {
	case r.is("let"):
		s := api.Stmt{Kind: api.SLet, Name: r.take()}
		r.must("=")
		return ended(one(s))
	case r.is("if"):
		s := one(api.Stmt{Kind: api.SIf})
		s.Body = r.block()
		if r.is("else") {
			s.Else = r.block()
		}
		return s
	case r.is("while"):
		s := one(api.Stmt{Kind: api.SWhile})
		s.Body = r.block()
		return s
	case r.is("return"):
		if r.is(";") {
			return api.Stmt{Kind: api.SReturn}
		}
		return ended(one(api.Stmt{Kind: api.SReturn}))
	case r.is("show"):
		return ended(one(api.Stmt{Kind: api.SShow}))
	case r.is("fail"):
		return ended(one(api.Stmt{Kind: api.SFail}))
	case r.is("try"):
		s := api.Stmt{Kind: api.STry, Body: r.block()}
		r.must("catch")
		s.Name = r.take()
		s.Else = r.block()
		return s
	case r.tokens[1].Text == "=":
		s := api.Stmt{Kind: api.SSet, Name: r.take()}
		r.must("=")
		return ended(one(s))
	}
	return ended(one(api.Stmt{Kind: api.SDo}))
}

// expr takes what stands at a level, from 1 on.
func (r *reader) expr(level int) api.Expr {
	if level > 5 {
		return r.unary()
	}
	e := r.expr(level + 1)
	for {
		op := 0
		for i, mark := range marks() {
			if mark == r.next() && levels()[i+1] == level {
				op = i + 1
			}
		}
		if op == 0 {
			return e
		}
		r.take()
		e = api.Expr{Kind: api.EBin, Op: op, Kids: []api.Expr{e, r.expr(level + 1)}}
		if level == 3 {
			return e
		}
	}
}

func (r *reader) unary() (e api.Expr) {
	of := func(op int) {
		r.deeper(func() { e = api.Expr{Kind: api.EUn, Op: op, Kids: []api.Expr{r.unary()}} })
	}
	switch {
	case r.is("-"):
		of(api.UNeg)
	case r.is("!"):
		of(api.UNot)
	default:
		e = r.primary()
	}
	return e
}

func (r *reader) primary() (e api.Expr) {
	t := r.tokens[0]
	switch r.take() {
	case "true":
		return lit(api.TBool, 1)
	case "false":
		return lit(api.TBool, 0)
	case "inf":
		return lit(api.TFloat, infinity)
	case "nan":
		return lit(api.TFloat, floats.NaN)
	case "input":
		return api.Expr{Kind: api.EInput}
	case "int":
		return api.Expr{Kind: api.EUn, Op: api.UInt, Kids: r.args()}
	case "float":
		return api.Expr{Kind: api.EUn, Op: api.UFloat, Kids: r.args()}
	case "(":
		r.deeper(func() { e = r.expr(1) })
		r.must(")")
		return e
	}
	switch {
	case t.Kind == lex.Int, t.Kind == lex.Float:
		return api.Expr{Kind: api.ELit, Value: t.Value}
	case r.is("."):
		r.mods = append(r.mods, t.Text)
		e = api.Expr{Kind: api.EFar, Mod: t.Text, Name: r.take()}
		if r.next() == "(" {
			e.Kind, e.Kids = api.EFarCall, r.args()
		}
		return e
	case r.next() == "(":
		return api.Expr{Kind: api.ECall, Name: t.Text, Kids: r.args()}
	}
	return api.Expr{Kind: api.EName, Name: t.Text}
}

func (r *reader) args() (l []api.Expr) {
	r.must("(")
	if r.is(")") {
		return nil
	}
	r.deeper(func() {
		for {
			l = append(l, r.expr(1))
			if !r.is(",") {
				break
			}
		}
	})
	r.must(")")
	return l
}
