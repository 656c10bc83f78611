package parse_test

import (
	"strings"
	"testing"

	"foundry/api"
	"foundry/floats"
	"foundry/ints"
	"foundry/lex"
	"foundry/parse"
	"foundry/tree"
)

// textWriter writes modules by the grammar, with more parentheses than they need.
type textWriter struct {
	x     *mixer
	loose int // how often: never at 0
}

func writer(x *mixer, loose int) *textWriter {
	return &textWriter{x, loose}
}

func (w *textWriter) typ(n int) string {
	return []string{"", ": int", ": float", ": bool"}[n]
}

func (w *textWriter) module(m api.Module) string {
	s := "module " + m.Name + ";"
	for _, i := range m.Imports {
		s += " import " + i + ";"
	}
	for _, d := range m.Decls {
		s += " " + w.decl(d)
	}
	return s
}

func (w *textWriter) decl(d api.Decl) string {
	s := ""
	if d.Export {
		s = "export "
	}
	if d.Kind != api.DFn {
		return s + []string{"", "const ", "var "}[d.Kind] + d.Name + w.typ(d.Type) + " = " + w.expr(d.E[0], 1) + ";"
	}
	var l []string
	for _, p := range d.Params {
		l = append(l, p.Name+w.typ(p.Type))
	}
	return s + "fn " + d.Name + "(" + strings.Join(l, ",") + ")" + w.typ(d.Type) + w.block(d.Body)
}

func (w *textWriter) block(l []api.Stmt) string {
	s := "{"
	for _, x := range l {
		s += w.stmt(x)
	}
	return s + "}"
}

func (w *textWriter) stmt(s api.Stmt) string {
	e := ""
	if len(s.E) > 0 {
		e = w.expr(s.E[0], 1)
	}
	switch s.Kind {
	case api.SLet:
		return "let " + s.Name + "=" + e + ";"
	case api.SSet:
		return s.Name + "=" + e + ";"
	case api.SIf:
		if len(s.Else) == 0 && w.x.below(2) == 0 {
			return "if " + e + w.block(s.Body)
		}
		return "if " + e + w.block(s.Body) + "else" + w.block(s.Else)
	case api.SWhile:
		return "while " + e + w.block(s.Body)
	case api.SReturn:
		return "return " + e + ";"
	case api.SShow:
		return "show " + e + ";"
	case api.SFail:
		return "fail " + e + ";"
	case api.STry:
		return "try" + w.block(s.Body) + "catch " + s.Name + w.block(s.Else)
	}
	return w.bare(s.E[0]) + ";"
}

// expr: as it stands where at least that level is asked for.
func (w *textWriter) expr(e api.Expr, least int) string {
	s := w.bare(e)
	own := 7
	if e.Kind == api.EBin {
		own = levels()[e.Op-1]
	}
	if e.Kind == api.EUn && e.Op <= api.UNot {
		own = 6
	}
	if own < least {
		s = "(" + s + ")"
	}
	for w.loose > 0 && w.x.below(8) < w.loose {
		s = "(" + s + ")"
	}
	return s
}

func (w *textWriter) bare(e api.Expr) string {
	var kids []string
	for _, k := range e.Kids {
		kids = append(kids, w.expr(k, 1))
	}
	args := "(" + strings.Join(kids, ",") + ")"
	switch e.Kind {
	case api.ELit:
		return w.literal(e.Value)
	case api.EName:
		return e.Name
	case api.EFar:
		return e.Mod + "." + e.Name
	case api.ECall:
		return e.Name + args
	case api.EFarCall:
		return e.Mod + "." + e.Name + args
	case api.EUn:
		if e.Op <= api.UNot {
			return []string{"", "-", "!"}[e.Op] + w.expr(e.Kids[0], 6)
		}
		return []string{"int", "float"}[e.Op-api.UInt] + args
	case api.EBin:
		own := levels()[e.Op-1]
		left := own
		if own == 3 {
			left = 4
		}
		return w.expr(e.Kids[0], left) + " " + marks()[e.Op-1] + " " + w.expr(e.Kids[1], own+1)
	}
	return "input"
}

// literal: behind a float that is written by its bits a blank has to stand.
func (w *textWriter) literal(v api.Value) string {
	switch v.Type {
	case api.TInt:
		return strings.Repeat("0", w.x.below(3)*w.loose) + ints.Decimal(int64(v.Bits))
	case api.TFloat:
		return floats.Text(v.Bits) + " "
	}
	return []string{"false", "true"}[v.Bits]
}

func TestLooseTextsAreTheirModules(t *testing.T) {
	x := mixer(702)
	taken, deep := 0, 0
	for n := range 4000 {
		m := x.module()
		text := writer(&x, n%3).module(m)
		got, at, e := parse.Parse(text)
		switch {
		case e == api.OK && same(got, m) && at == 0:
			taken++
		case e == api.OK:
			t.Errorf("%q: %+v, not %+v", text, got, m)
		case e == api.ErrDeep && n%3 > 0 && text[at] == '(':
			// The parentheses that are not needed may be too many.
			deep++
		default:
			if _, _, code := lex.Lex(text); code != api.ErrBig || e != api.ErrBig {
				t.Errorf("%q: %d, %d", text, at, e)
			}
		}
	}
	if taken < 2500 {
		t.Errorf("not much was tried: %d, %d", taken, deep)
	}
}

// P703

func TestParseOfPrint(t *testing.T) {
	x := mixer(703)
	printed := 0
	modules := []api.Module{fullModule(), {Name: "m"}}
	for range 4000 {
		modules = append(modules, x.module())
	}
	for _, m := range modules {
		s, e := tree.Print(m)
		if e != api.OK {
			continue
		}
		printed++
		got, at, e := parse.Parse(s)
		if e != api.OK || at != 0 || !same(got, m) || !tree.Same(got, m) {
			t.Errorf("%q: %+v, %d, %d, not %+v", s, got, at, e, m)
		}
		if again, _ := tree.Print(got); again != s {
			t.Errorf("%q, printed again: %q", s, again)
		}
	}
	if printed < 2500 {
		t.Errorf("not much was tried: %d", printed)
	}
}

func TestParseOfPrintAtTheLimits(t *testing.T) {
	deep, signs, calls, row := name("x"), name("x"), call("f"), num(1)
	for n := range 32 {
		deep = bin(api.BSub, num(uint64(n)), deep)
		signs = un(1+n%2, signs)
		calls = call("f", calls)
	}
	deep = bin(api.BSub, num(99), deep)
	for range 200 {
		row = bin(api.BSub, row, num(1))
	}
	args := farCall("k", "f", num(1), num(2), num(3), num(4), num(5), num(6), num(7), num(8))
	block := []api.Stmt{{Kind: api.SDo, E: one(call("f"))}}
	for n := range 31 {
		block = []api.Stmt{{Kind: api.SIf, E: one(num(uint64(n))), Body: block}}
	}
	var imports []string
	var params []api.Param
	var decls []api.Decl
	for n := range 64 {
		s := strings.Repeat("n", n%32+1)
		if n < 16 {
			imports = append(imports, s)
		}
		if n < 8 {
			params = append(params, api.Param{Name: s, Type: n%3 + 1})
		}
		decls = append(decls, api.Decl{Kind: api.DConst, Export: n%2 == 0, Name: s, Type: n%3 + 1, E: one(num(uint64(n)))})
	}
	for _, m := range []api.Module{
		{Name: "m", Imports: imports, Decls: decls},
		module("m", api.Decl{Kind: api.DFn, Name: "f", Params: params, Body: block}),
		module("m", api.Decl{Kind: api.DVar, Name: "v", Type: api.TInt, E: one(deep)}, api.Decl{Kind: api.DVar, Name: "v", Type: api.TInt, E: one(signs)}, api.Decl{Kind: api.DVar, Name: "v", Type: api.TInt, E: one(calls)}),
		module("m", api.Decl{Kind: api.DVar, Name: "v", Type: api.TInt, E: one(row)}, api.Decl{Kind: api.DVar, Name: "v", Type: api.TInt, E: one(args)}),
	} {
		s, e := tree.Print(m)
		if e != api.OK {
			t.Fatalf("Print: %d", e)
		}
		isModule(t, s, m)
	}
}

// P704

func TestParseHangsOnTheTokensAlone(t *testing.T) {
	x := mixer(704)
	isModule(t, lex.Join(tokensOf(t, fullText)), fullModule())
	for n := range 600 {
		m := fullModule()
		if n > 0 {
			m = x.module()
		}
		text, e := tree.Print(m)
		if e != api.OK {
			continue
		}
		l := tokensOf(t, text)
		var lines, remarks []string
		for _, token := range l {
			lines = append(lines, token.Text)
			remarks = append(remarks, token.Text+" // module x; } )\n")
		}
		texts := []string{lex.Join(l), strings.Join(lines, "\n"), strings.Join(lines, " \r\n\t "), strings.Join(remarks, ""), "// a remark\n\n" + strings.Join(remarks, "//\n"), x.spread(l), text + "// the end"}
		for _, s := range texts {
			got, at, e := parse.Parse(s)
			if len(s) > api.MaxText {
				if e != api.ErrBig || at != 0 || !same(got, api.Module{}) {
					t.Errorf("%d bytes: %d, %d", len(s), at, e)
				}
				continue
			}
			if e != api.OK || at != 0 || !same(got, m) {
				t.Errorf("%q: %+v, %d, %d, not %+v", s, got, at, e, m)
			}
		}
	}
}

// TestFaultsHangOnTheTokensAlone: the token that is told is the same one, wherever it stands.
func TestFaultsHangOnTheTokensAlone(t *testing.T) {
	x := mixer(705)
	full := tokensOf(t, fullText)
	which := func(text string, at int) int {
		n := 0
		for _, token := range tokensOf(t, text) {
			if token.At < at {
				n++
			}
		}
		return n
	}
	for range 1000 {
		l := x.spoil(full)
		a, b := lex.Join(l), x.spread(l)
		if len(b) > api.MaxText {
			continue
		}
		_, atA, codeA := parse.Parse(a)
		_, atB, codeB := parse.Parse(b)
		if codeA != codeB || which(a, atA) != which(b, atB) {
			t.Errorf("%q: %d at %d; %q: %d at %d", a, codeA, atA, b, codeB, atB)
		}
	}
}

func TestExprOfText(t *testing.T) {
	x := mixer(7040)
	for range 3000 {
		e := x.expr(x.below(25))
		s, code := tree.Text(e)
		if code != api.OK {
			continue
		}
		l, _, code := lex.Lex(s)
		if code != api.OK {
			continue
		}
		for _, text := range []string{s, lex.Join(l), x.spread(l)} {
			if len(text) > api.MaxText {
				continue
			}
			if got, at, code := parse.Expr(text); code != api.OK || at != 0 || !same(got, e) {
				t.Errorf("%q: %+v, %d, %d, not %+v", text, got, at, code, e)
			}
		}
	}
}
