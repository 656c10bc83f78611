package tree

import (
	"strings"

	"foundry/api"
	"foundry/floats"
	"foundry/ints"
	"foundry/lex"
	"foundry/names"
)

// Text: the one text of an expression, or what is wrong with it.
func Text(e api.Expr) (string, api.Errno) {
	if code := RightExpr(e); code != api.OK {
		return "", code
	}
	return exprText(e), api.OK
}

// Print: the one text of a module, or what is wrong with it.
func Print(m api.Module) (string, api.Errno) {
	if code := Right(m); code != api.OK {
		return "", code
	}
	text := moduleText(m)
	if _, _, code := lex.Lex(text); code == api.ErrBig {
		return "", code
	}
	return text, api.OK
}

// printer has the lines of a module. All that it is asked to write is right.
type printer struct{ text strings.Builder }

// line writes one, with two blanks ahead for each block that it stands in.
func (p *printer) line(blocks int, parts ...string) {
	for range blocks {
		p.text.WriteString("  ")
	}
	for _, s := range parts {
		p.text.WriteString(s)
	}
	p.text.WriteByte('\n')
}

func moduleText(m api.Module) string {
	var p printer
	p.line(0, "module ", m.Name, ";")
	for _, name := range m.Imports {
		p.line(0, "import ", name, ";")
	}
	for _, d := range m.Decls {
		p.decl(d)
	}
	return p.text.String()
}

func (p *printer) decl(d api.Decl) {
	export := ""
	if d.Export {
		export = "export "
	}
	switch d.Kind {
	case api.DConst:
		p.line(0, export, "const ", d.Name, typeText(d.Type), " = ", exprText(d.E[0]), ";")
	case api.DVar:
		p.line(0, "var ", d.Name, typeText(d.Type), " = ", exprText(d.E[0]), ";")
	case api.DFn:
		p.line(0, export, "fn ", d.Name, "(", paramsText(d.Params), ")", typeText(d.Type), " {")
		p.block(d.Body, 1)
		p.line(0, "}")
	}
}

func paramsText(l []api.Param) string {
	var each []string
	for _, p := range l {
		each = append(each, p.Name+typeText(p.Type))
	}
	return strings.Join(each, ", ")
}

// typeText: what stands behind the name of what has that type.
func typeText(t int) string {
	switch t {
	case api.TInt:
		return ": int"
	case api.TFloat:
		return ": float"
	case api.TBool:
		return ": bool"
	}
	return ""
}

func (p *printer) block(block []api.Stmt, blocks int) {
	for _, s := range block {
		p.stmt(s, blocks)
	}
}

func (p *printer) stmt(s api.Stmt, blocks int) {
	switch s.Kind {
	case api.SLet:
		p.line(blocks, "let ", s.Name, " = ", exprText(s.E[0]), ";")
	case api.SSet:
		p.line(blocks, s.Name, " = ", exprText(s.E[0]), ";")
	case api.SIf:
		p.line(blocks, "if ", exprText(s.E[0]), " {")
		p.block(s.Body, blocks+1)
		if len(s.Else) > 0 {
			p.line(blocks, "} else {")
			p.block(s.Else, blocks+1)
		}
		p.line(blocks, "}")
	case api.SWhile:
		p.line(blocks, "while ", exprText(s.E[0]), " {")
		p.block(s.Body, blocks+1)
		p.line(blocks, "}")
	case api.SReturn:
		p.returns(s.E, blocks)
	case api.SShow:
		p.line(blocks, "show ", exprText(s.E[0]), ";")
	case api.SFail:
		p.line(blocks, "fail ", exprText(s.E[0]), ";")
	case api.STry:
		p.line(blocks, "try {")
		p.block(s.Body, blocks+1)
		p.line(blocks, "} catch ", s.Name, " {")
		p.block(s.Else, blocks+1)
		p.line(blocks, "}")
	case api.SDo:
		p.line(blocks, exprText(s.E[0]), ";")
	}
}

func (p *printer) returns(e []api.Expr, blocks int) {
	if len(e) == 0 {
		p.line(blocks, "return;")
		return
	}
	p.line(blocks, "return ", exprText(e[0]), ";")
}

func exprText(e api.Expr) string {
	var b strings.Builder
	writeExpr(&b, e, lowest)
	return b.String()
}

// writeExpr writes an expression as it stands at a level.
func writeExpr(b *strings.Builder, e api.Expr, least int) {
	if level(e) >= least {
		writeBare(b, e)
		return
	}
	b.WriteByte('(')
	writeBare(b, e)
	b.WriteByte(')')
}

// writeBare writes an expression without parentheses about it.
func writeBare(b *strings.Builder, e api.Expr) {
	switch e.Kind {
	case api.ELit:
		b.WriteString(literalText(e.Value))
	case api.EName:
		b.WriteString(e.Name)
	case api.EFar:
		b.WriteString(names.Far(e.Mod, e.Name))
	case api.ECall:
		writeCall(b, e.Name, e)
	case api.EFarCall:
		writeCall(b, names.Far(e.Mod, e.Name), e)
	case api.EUn:
		writeOfOne(b, e)
	case api.EBin:
		writeKid(b, e, 0)
		b.WriteString(markOfTwo(e.Op))
		writeKid(b, e, 1)
	case api.EInput:
		b.WriteString("input")
	}
}

func writeKid(b *strings.Builder, e api.Expr, i int) {
	least, _ := kidPlace(e, i)
	writeExpr(b, e.Kids[i], least)
}

func writeCall(b *strings.Builder, name string, e api.Expr) {
	b.WriteString(name)
	b.WriteByte('(')
	for i := range e.Kids {
		if i > 0 {
			b.WriteString(", ")
		}
		writeKid(b, e, i)
	}
	b.WriteByte(')')
}

func writeOfOne(b *strings.Builder, e api.Expr) {
	switch e.Op {
	case api.UNeg:
		b.WriteByte('-')
		writeKid(b, e, 0)
	case api.UNot:
		b.WriteByte('!')
		writeKid(b, e, 0)
	case api.UInt:
		writeCall(b, "int", e)
	case api.UFloat:
		writeCall(b, "float", e)
	}
}

// markOfTwo: what stands between the two, with its blanks.
func markOfTwo(op int) string {
	switch op {
	case api.BAdd:
		return " + "
	case api.BSub:
		return " - "
	case api.BMul:
		return " * "
	case api.BDiv:
		return " / "
	case api.BRem:
		return " % "
	case api.BEq:
		return " == "
	case api.BNe:
		return " != "
	case api.BLt:
		return " < "
	case api.BLe:
		return " <= "
	case api.BGt:
		return " > "
	case api.BGe:
		return " >= "
	case api.BAnd:
		return " && "
	}
	return " || "
}

func literalText(v api.Value) string {
	switch v.Type {
	case api.TInt:
		return ints.Decimal(int64(v.Bits))
	case api.TFloat:
		return floats.Text(v.Bits)
	}
	if v.Bits == 0 {
		return "false"
	}
	return "true"
}
