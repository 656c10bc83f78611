package parse

import (
	"foundry/api"
	"foundry/lex"
)

func (p *parser) module() api.Module {
	p.must("module")
	m := api.Module{Name: p.name()}
	p.must(";")
	for p.is("import") {
		m.Imports = more(p, m.Imports, api.MaxImports, (*parser).imported)
	}
	for !p.atEnd() {
		m.Decls = more(p, m.Decls, api.MaxItems, (*parser).decl)
	}
	return m
}

func (p *parser) imported() string {
	p.must("import")
	name := p.name()
	p.must(";")
	return name
}

func (p *parser) decl() api.Decl {
	export := p.has("export")
	d := api.Decl{Export: export}
	switch {
	case p.has("const"):
		d.Kind = api.DConst
		p.holder(&d)
	case !export && p.has("var"):
		d.Kind = api.DVar
		p.holder(&d)
	case p.has("fn"):
		d.Kind = api.DFn
		p.function(&d)
	default:
		panic(p.fault(api.ErrSyntax))
	}
	return d
}

// holder: what stands behind the word of a constant or a variable.
func (p *parser) holder(d *api.Decl) {
	d.Name = p.name()
	p.must(":")
	d.Type = p.typeWord()
	p.must("=")
	d.E = p.lone()
	p.must(";")
}

// function: what stands behind `fn`.
func (p *parser) function(d *api.Decl) {
	d.Name = p.name()
	p.must("(")
	if !p.is(")") {
		d.Params = row(p, api.MaxParams, (*parser).param)
	}
	p.must(")")
	if p.has(":") {
		d.Type = p.typeWord()
	}
	d.Body = p.block()
}

func (p *parser) param() api.Param {
	name := p.name()
	p.must(":")
	return api.Param{Name: name, Type: p.typeWord()}
}

func (p *parser) typeWord() int {
	switch {
	case p.has("int"):
		return api.TInt
	case p.has("float"):
		return api.TFloat
	case p.has("bool"):
		return api.TBool
	}
	panic(p.fault(api.ErrSyntax))
}

func (p *parser) block() []api.Stmt {
	var l []api.Stmt
	p.open("{")
	for !p.is("}") {
		l = append(l, p.stmt())
	}
	p.shut("}")
	return l
}

func (p *parser) stmt() api.Stmt {
	if p.next().Kind == lex.Name {
		return p.named()
	}
	switch {
	case p.has("let"):
		return p.assigned(api.SLet, p.name())
	case p.has("if"):
		return p.branch()
	case p.has("while"):
		s := api.Stmt{Kind: api.SWhile, E: p.lone()}
		s.Body = p.block()
		return s
	case p.has("return"):
		return p.returned()
	case p.has("show"):
		return p.ended(api.SShow, p.lone())
	case p.has("fail"):
		return p.ended(api.SFail, p.lone())
	case p.has("try"):
		return p.tried()
	}
	panic(p.fault(api.ErrSyntax))
}

// named: the statement that begins with a name: it is set, or called.
func (p *parser) named() api.Stmt {
	e := p.reference()
	if e.Kind == api.EName && p.is("=") {
		return p.assigned(api.SSet, e.Name)
	}
	return p.ended(api.SDo, []api.Expr{p.call(e)})
}

// assigned: the statement that gives the name a value, from the `=` on.
func (p *parser) assigned(kind int, name string) api.Stmt {
	p.must("=")
	s := p.ended(kind, p.lone())
	s.Name = name
	return s
}

// ended: the statement that has these expressions and then its `;`.
func (p *parser) ended(kind int, e []api.Expr) api.Stmt {
	p.must(";")
	return api.Stmt{Kind: kind, E: e}
}

// branch: what stands behind `if`.
func (p *parser) branch() api.Stmt {
	s := api.Stmt{Kind: api.SIf, E: p.lone()}
	s.Body = p.block()
	if p.has("else") {
		s.Else = p.block()
	}
	return s
}

// returned: what stands behind `return`.
func (p *parser) returned() api.Stmt {
	if p.is(";") {
		return p.ended(api.SReturn, nil)
	}
	return p.ended(api.SReturn, p.lone())
}

// tried: what stands behind `try`.
func (p *parser) tried() api.Stmt {
	s := api.Stmt{Kind: api.STry, Body: p.block()}
	p.must("catch")
	s.Name = p.name()
	s.Else = p.block()
	return s
}
