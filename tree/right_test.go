package tree_test

import (
	"fmt"
	"math"
	"strings"
	"testing"

	"foundry/api"
	"foundry/floats"
	"foundry/tree"
)

// isRight fails unless Right of m is that error, and Print's too if it is one, and m stays as it is.
func isRight(t *testing.T, what string, m api.Module, want api.Errno) {
	t.Helper()
	m = roomy(m)
	before := viewer(true).module(m)
	if got := tree.Right(m); got != want {
		t.Errorf("Right of %s: %d, not %d", what, got, want)
	}
	s, e := tree.Print(m)
	if want != api.OK && (s != "" || e != want) {
		t.Errorf("Print of %s: %q, %d, not %d", what, s, e, want)
	}
	if want == api.OK && e != api.OK && e != api.ErrBig {
		t.Errorf("Print of %s: %d", what, e)
	}
	if viewer(true).module(m) != before {
		t.Errorf("%s was changed", what)
	}
}

// isRightAlone does so of an expression.
func isRightAlone(t *testing.T, what string, e api.Expr, want api.Errno) {
	t.Helper()
	e = roomyExpr(e)
	before := viewer(true).expr(e)
	if got := tree.RightExpr(e); got != want {
		t.Errorf("RightExpr of %s: %d, not %d", what, got, want)
	}
	if s, code := tree.Text(e); code != want || (s != "") != (want == api.OK) {
		t.Errorf("Text of %s: %q, %d, not %d", what, s, code, want)
	}
	if viewer(true).expr(e) != before {
		t.Errorf("%s was changed", what)
	}
}

// isRightExpr does so of an expression, and of it in a constant, a block and in other expressions.
func isRightExpr(t *testing.T, what string, e api.Expr, want api.Errno) {
	t.Helper()
	isRightAlone(t, what, e, want)
	isRight(t, what+" in a constant", constOf(e), want)
	isRight(t, what+" in a block", fnOf(api.Stmt{Kind: api.SWhile, E: one(name("b")), Body: []api.Stmt{show(e)}}), want)
	for _, in := range []api.Expr{bin(api.BSub, e, num(1)), bin(api.BSub, num(1), e), un(api.UNot, e), un(api.UInt, e), call("f", num(1), e), farCall("k", "f", e, num(1))} {
		isRight(t, what+" in "+exprKey(in), constOf(in), want)
		if got := tree.RightExpr(in); got != want {
			t.Errorf("RightExpr of %s in %s: %d, not %d", what, exprKey(in), got, want)
		}
	}
}

// isRightStmt does so of a statement in a function and in blocks.
func isRightStmt(t *testing.T, what string, s api.Stmt, want api.Errno) {
	t.Helper()
	l := []api.Stmt{show(num(0)), s}
	isRight(t, what, fnOf(l...), want)
	isRight(t, what+" in if", fnOf(api.Stmt{Kind: api.SIf, E: one(num(1)), Body: l}), want)
	isRight(t, what+" in else", fnOf(api.Stmt{Kind: api.SIf, E: one(num(1)), Else: l}), want)
	isRight(t, what+" in while", fnOf(api.Stmt{Kind: api.SWhile, E: one(num(1)), Body: l}), want)
	isRight(t, what+" in try", fnOf(api.Stmt{Kind: api.STry, Name: "t", Body: l}), want)
	isRight(t, what+" in catch", fnOf(api.Stmt{Kind: api.STry, Name: "t", Else: l}), want)
}

func isRightDecl(t *testing.T, what string, d api.Decl, want api.Errno) {
	t.Helper()
	isRight(t, what, api.Module{Name: "m", Decls: []api.Decl{d}}, want)
	isRight(t, what+" behind others", api.Module{Name: "m", Decls: append(sampleDecls(), d)}, want)
	isRight(t, what+" ahead of others", api.Module{Name: "m", Decls: append([]api.Decl{d}, sampleDecls()...)}, want)
}

// noKinds: numbers of no kind, if the last one is that.
func noKinds(last int) []int {
	return []int{0, -1, last + 1, last + 2, 100, math.MaxInt, math.MinInt}
}

// F6.1: what is right

func TestRightOfTheEmptyModule(t *testing.T) {
	isRight(t, "the zero module", api.Module{}, api.ErrName)
	isRight(t, "a module of a name alone", api.Module{Name: "m"}, api.OK)
	isRight(t, "one with empty lists", api.Module{Name: "m", Imports: []string{}, Decls: []api.Decl{}}, api.OK)
}

func TestRightOfEachKind(t *testing.T) {
	for _, e := range sampleExprs() {
		isRightExpr(t, exprKey(e), e, api.OK)
	}
	for _, s := range sampleStmts() {
		isRightStmt(t, fmt.Sprint("the statement ", s.Kind), s, api.OK)
	}
	for _, d := range sampleDecls() {
		isRightDecl(t, fmt.Sprint("the declaration ", d.Kind), d, api.OK)
	}
	isRight(t, "the sample", sample(), api.OK)
}

func TestEmptyListsAreNone(t *testing.T) {
	none, nothing := []api.Expr{}, []api.Stmt{}
	for _, e := range []api.Expr{num(1), name("x"), far("k", "X"), call("f"), farCall("k", "f"), input()} {
		e.Kids = none
		isRightExpr(t, exprKey(e), e, api.OK)
	}
	for _, s := range sampleStmts() {
		s.Body, s.Else = nothing, nothing
		isRightStmt(t, fmt.Sprint("the statement ", s.Kind), s, api.OK)
	}
	isRightStmt(t, "return", api.Stmt{Kind: api.SReturn, E: none, Body: nothing, Else: nothing}, api.OK)
	isRightStmt(t, "try", api.Stmt{Kind: api.STry, Name: "t", E: none}, api.OK)
	isRightDecl(t, "const", api.Decl{Kind: api.DConst, Name: "C", Type: api.TInt, Params: []api.Param{}, E: one(num(1)), Body: nothing}, api.OK)
	isRightDecl(t, "fn", api.Decl{Kind: api.DFn, Name: "f", Params: []api.Param{}, E: none, Body: nothing}, api.OK)
}

// F6.1: kinds, operators and fields

func TestKindsThatAreNone(t *testing.T) {
	for _, kind := range noKinds(api.EInput) {
		for _, e := range append(sampleExprs(), api.Expr{}) {
			e.Kind = kind
			isRightExpr(t, exprKey(e), e, api.ErrArg)
		}
	}
	for _, kind := range noKinds(api.SDo) {
		for _, s := range append(sampleStmts(), api.Stmt{}) {
			s.Kind = kind
			isRightStmt(t, fmt.Sprint("the statement ", kind), s, api.ErrArg)
		}
	}
	for _, kind := range noKinds(api.DFn) {
		for _, d := range append(sampleDecls(), api.Decl{}) {
			d.Kind = kind
			isRightDecl(t, fmt.Sprint("the declaration ", kind), d, api.ErrArg)
		}
	}
}

func TestOperators(t *testing.T) {
	for op := api.UNeg; op <= api.UFloat; op++ {
		isRightExpr(t, fmt.Sprint("EUn ", op), un(op, name("x")), api.OK)
	}
	for op := api.BAdd; op <= api.BOr; op++ {
		isRightExpr(t, fmt.Sprint("EBin ", op), bin(op, name("x"), num(1)), api.OK)
	}
	for _, op := range noKinds(api.UFloat) {
		isRightExpr(t, fmt.Sprint("EUn ", op), un(op, name("x")), api.ErrArg)
	}
	for _, op := range noKinds(api.BOr) {
		isRightExpr(t, fmt.Sprint("EBin ", op), bin(op, name("x"), num(1)), api.ErrArg)
	}
}

func TestHowManyKidsAnOperatorHas(t *testing.T) {
	for n := range 12 {
		for op := api.UNeg; op <= api.UFloat; op++ {
			want := api.ErrArg
			if n == 1 {
				want = api.OK
			}
			isRightExpr(t, fmt.Sprint("EUn ", op, " of ", n), api.Expr{Kind: api.EUn, Op: op, Kids: times(n, name("x"))}, want)
		}
		for op := api.BAdd; op <= api.BOr; op++ {
			want := api.ErrArg
			if n == 2 {
				want = api.OK
			}
			isRightExpr(t, fmt.Sprint("EBin ", op, " of ", n), api.Expr{Kind: api.EBin, Op: op, Kids: times(n, name("x"))}, want)
		}
	}
}

func TestFieldsThatAnExpressionDoesNotHave(t *testing.T) {
	fields := []struct {
		letter string
		set    func(e *api.Expr)
	}{
		{"O", func(e *api.Expr) { e.Op = 1 }},
		{"O", func(e *api.Expr) { e.Op = -1 }},
		{"O", func(e *api.Expr) { e.Op = math.MinInt }},
		{"M", func(e *api.Expr) { e.Mod = "k" }},
		{"M", func(e *api.Expr) { e.Mod = "\x00" }},
		{"N", func(e *api.Expr) { e.Name = "n" }},
		{"N", func(e *api.Expr) { e.Name = " " }},
		{"V", func(e *api.Expr) { e.Value.Type = api.TInt }},
		{"V", func(e *api.Expr) { e.Value.Type = -1 }},
		{"V", func(e *api.Expr) { e.Value.Bits = 1 }},
		{"V", func(e *api.Expr) { e.Value.Bits = 1 << 63 }},
		{"K", func(e *api.Expr) { e.Kids = one(num(1)) }},
		{"K", func(e *api.Expr) { e.Kids = one(api.Expr{}) }},
		{"K", func(e *api.Expr) { e.Kids = times(9, num(1)) }},
	}
	for _, e := range sampleExprs() {
		for i, f := range fields {
			if strings.Contains(exprFields()[e.Kind], f.letter) {
				continue
			}
			wrong := e
			f.set(&wrong)
			isRightExpr(t, fmt.Sprint(exprKey(wrong), " with the field ", i), wrong, api.ErrArg)
		}
	}
}

func TestFieldsThatAStatementDoesNotHave(t *testing.T) {
	fields := []struct {
		letter string
		set    func(s *api.Stmt)
	}{
		{"N", func(s *api.Stmt) { s.Name = "n" }},
		{"N", func(s *api.Stmt) { s.Name = "9" }},
		{"B", func(s *api.Stmt) { s.Body = []api.Stmt{show(num(1))} }},
		{"B", func(s *api.Stmt) { s.Body = []api.Stmt{{}} }},
		{"L", func(s *api.Stmt) { s.Else = []api.Stmt{show(num(1))} }},
		{"L", func(s *api.Stmt) { s.Else = []api.Stmt{{}} }},
	}
	for _, s := range sampleStmts() {
		is := stmtFields()[s.Kind]
		for i, f := range fields {
			if strings.Contains(is.may, f.letter) {
				continue
			}
			wrong := s
			f.set(&wrong)
			isRightStmt(t, fmt.Sprint("the statement ", s.Kind, " with the field ", i), wrong, api.ErrArg)
		}
		for n := range 5 {
			counted, want := s, api.ErrArg
			counted.E = times(n, call("f"))
			if is.least <= n && n <= is.most {
				want = api.OK
			}
			isRightStmt(t, fmt.Sprint("the statement ", s.Kind, " with ", n, " of E"), counted, want)
		}
	}
}

func TestAnSDoIsACall(t *testing.T) {
	for _, e := range sampleExprs() {
		want := api.ErrArg
		if e.Kind == api.ECall || e.Kind == api.EFarCall {
			want = api.OK
		}
		isRightStmt(t, "SDo of "+exprKey(e), api.Stmt{Kind: api.SDo, E: one(e)}, want)
	}
	isRightStmt(t, "SDo of -f()", api.Stmt{Kind: api.SDo, E: one(un(api.UNeg, call("f")))}, api.ErrArg)
	isRightStmt(t, "SDo of nothing", api.Stmt{Kind: api.SDo}, api.ErrArg)
	isRightStmt(t, "SDo of a wrong name", api.Stmt{Kind: api.SDo, E: one(name("9"))}, api.ErrArg)
	isRightStmt(t, "SDo of a call by a wrong name", api.Stmt{Kind: api.SDo, E: one(call("9"))}, api.ErrName)
}

func TestAReturnMayHaveNothing(t *testing.T) {
	isRightStmt(t, "return", api.Stmt{Kind: api.SReturn}, api.OK)
	isRightStmt(t, "return 1", api.Stmt{Kind: api.SReturn, E: one(num(1))}, api.OK)
}

func TestFieldsThatADeclarationDoesNotHave(t *testing.T) {
	value, body, params := one(num(1)), []api.Stmt{{Kind: api.SReturn}}, []api.Param{{Name: "a", Type: api.TInt}}
	for typ := -2; typ <= 6; typ++ {
		for _, export := range []bool{false, true} {
			is := func(right bool) api.Errno {
				if right {
					return api.OK
				}
				return api.ErrArg
			}
			what := fmt.Sprint("the type ", typ, ", export ", export, ", of ")
			isRightDecl(t, what+"const", api.Decl{Kind: api.DConst, Export: export, Name: "C", Type: typ, E: value}, is(typ >= 1 && typ <= 3))
			isRightDecl(t, what+"var", api.Decl{Kind: api.DVar, Export: export, Name: "v", Type: typ, E: value}, is(typ >= 1 && typ <= 3 && !export))
			isRightDecl(t, what+"fn", api.Decl{Kind: api.DFn, Export: export, Name: "f", Type: typ, Params: params, Body: body}, is(typ >= 0 && typ <= 3))
		}
	}
	for _, kind := range []int{api.DConst, api.DVar} {
		what := fmt.Sprint("the declaration ", kind)
		for n := range 4 {
			want := api.ErrArg
			if n == 1 {
				want = api.OK
			}
			isRightDecl(t, fmt.Sprint(what, " with ", n, " of E"), api.Decl{Kind: kind, Name: "x", Type: api.TInt, E: times(n, num(1))}, want)
		}
		isRightDecl(t, what+" with Params", api.Decl{Kind: kind, Name: "x", Type: api.TInt, E: value, Params: params}, api.ErrArg)
		isRightDecl(t, what+" with too many Params", api.Decl{Kind: kind, Name: "x", Type: api.TInt, E: value, Params: times(9, params[0])}, api.ErrArg)
		isRightDecl(t, what+" with a Body", api.Decl{Kind: kind, Name: "x", Type: api.TInt, E: value, Body: body}, api.ErrArg)
	}
	for n := 1; n < 4; n++ {
		isRightDecl(t, fmt.Sprint("fn with ", n, " of E"), api.Decl{Kind: api.DFn, Name: "f", E: times(n, num(1))}, api.ErrArg)
	}
	for _, typ := range []int{-1 << 63, -1, 0, 4, 1<<63 - 1} {
		isRightDecl(t, fmt.Sprint("fn with a parameter of the type ", typ), api.Decl{Kind: api.DFn, Name: "f", Params: []api.Param{{Name: "a", Type: api.TBool}, {Name: "b", Type: typ}}}, api.ErrArg)
	}
}

// F6.1: names

func TestNamesEverywhere(t *testing.T) {
	places := map[string]func(s string) api.Module{
		"module": func(s string) api.Module { return api.Module{Name: s} },
		"import": func(s string) api.Module { return api.Module{Name: "m", Imports: []string{"k", s}} },
		"const":  func(s string) api.Module { m := constOf(num(1)); m.Decls[0].Name = s; return m },
		"var": func(s string) api.Module {
			m := constOf(num(1))
			m.Decls[0].Name, m.Decls[0].Kind = s, api.DVar
			return m
		},
		"fn": func(s string) api.Module { m := fnOf(); m.Decls[0].Name = s; return m },
		"parameter": func(s string) api.Module {
			m := fnOf()
			m.Decls[0].Params = []api.Param{{Name: "a", Type: 1}, {Name: s, Type: 1}}
			return m
		},
		"let":      func(s string) api.Module { return fnOf(api.Stmt{Kind: api.SLet, Name: s, E: one(num(1))}) },
		"set":      func(s string) api.Module { return fnOf(api.Stmt{Kind: api.SSet, Name: s, E: one(num(1))}) },
		"catch":    func(s string) api.Module { return fnOf(api.Stmt{Kind: api.STry, Name: s}) },
		"EName":    func(s string) api.Module { return constOf(name(s)) },
		"EFar Mod": func(s string) api.Module { return constOf(far(s, "x")) },
		"EFar":     func(s string) api.Module { return constOf(far("k", s)) },
		"ECall":    func(s string) api.Module { return constOf(call(s)) },
		"far Mod":  func(s string) api.Module { return constOf(farCall(s, "f")) },
		"EFarCall": func(s string) api.Module { return constOf(farCall("k", s)) },
	}
	wrong := append(reserved(), "", "9a", "a b", "a.b", "a;", "é", "\xff", "-", long(33)+" ")
	for place, in := range places {
		for _, s := range []string{"a", "_", "_9", "Int", "main", long(api.MaxName)} {
			isRight(t, fmt.Sprintf("%s of the name %q", place, s), in(s), api.OK)
		}
		for _, s := range wrong {
			isRight(t, fmt.Sprintf("%s of the name %q", place, s), in(s), api.ErrName)
		}
		isRight(t, place+" of a long name", in(long(api.MaxName+1)), api.ErrBig)
		isRight(t, place+" of a very long name", in(long(1<<16)), api.ErrBig)
	}
	for _, e := range []api.Expr{name(""), far("", "x"), far("k", ""), call(""), farCall("", "f"), farCall("k", "")} {
		isRightExpr(t, exprKey(e), e, api.ErrName)
	}
	for _, e := range []api.Expr{name(long(33)), far(long(33), "x"), far("k", long(33)), call(long(33)), farCall(long(33), "f"), farCall("k", long(33))} {
		isRightExpr(t, exprKey(e), e, api.ErrBig)
	}
}

// F6.1: literals

func TestLiterals(t *testing.T) {
	for _, x := range []struct {
		typ  int
		bits uint64
		want api.Errno
	}{
		{api.TInt, 0, api.OK}, {api.TInt, 1, api.OK}, {api.TInt, 1<<63 - 1, api.OK}, {api.TInt, 1 << 63, api.ErrArg}, {api.TInt, 1<<64 - 1, api.ErrArg},
		{api.TFloat, 0, api.OK}, {api.TFloat, 1, api.OK}, {api.TFloat, 0x3ff8000000000000, api.OK}, {api.TFloat, infinity - 1, api.OK}, {api.TFloat, infinity, api.OK},
		{api.TFloat, floats.NaN, api.OK}, {api.TFloat, floats.NaN - 1, api.ErrArg}, {api.TFloat, floats.NaN + 1, api.ErrArg}, {api.TFloat, infinity + 1, api.ErrArg}, {api.TFloat, 1<<63 - 1, api.ErrArg},
		{api.TFloat, 1 << 63, api.ErrArg}, {api.TFloat, 1<<63 | 1, api.ErrArg}, {api.TFloat, 1<<63 | infinity, api.ErrArg}, {api.TFloat, 1<<63 | floats.NaN, api.ErrArg}, {api.TFloat, 1<<64 - 1, api.ErrArg},
		{api.TBool, 0, api.OK}, {api.TBool, 1, api.OK}, {api.TBool, 2, api.ErrArg}, {api.TBool, 3, api.ErrArg}, {api.TBool, 1 << 63, api.ErrArg}, {api.TBool, 1<<64 - 1, api.ErrArg},
		{api.TNone, 0, api.ErrArg}, {api.TNone, 1, api.ErrArg}, {4, 0, api.ErrArg}, {-1, 0, api.ErrArg}, {math.MaxInt, 1, api.ErrArg}, {math.MinInt, 1, api.ErrArg},
	} {
		isRightExpr(t, fmt.Sprintf("the literal %d of %#x", x.typ, x.bits), lit(x.typ, x.bits), x.want)
	}
}

// F6.1: limits

func TestLimits(t *testing.T) {
	if api.MaxImports != 16 || api.MaxItems != 64 || api.MaxParams != 8 || api.MaxDepth != 32 || api.MaxName != 32 {
		t.Fatal("the limits are others than these tests hold on to")
	}
	for n, want := range map[int]api.Errno{0: api.OK, 1: api.OK, api.MaxImports: api.OK, api.MaxImports + 1: api.ErrBig, 1000: api.ErrBig} {
		isRight(t, fmt.Sprint(n, " imports"), api.Module{Name: "m", Imports: times(n, "k")}, want)
	}
	for n, want := range map[int]api.Errno{0: api.OK, 1: api.OK, api.MaxItems: api.OK, api.MaxItems + 1: api.ErrBig, 1000: api.ErrBig} {
		for _, d := range sampleDecls() {
			isRight(t, fmt.Sprint(n, " declarations"), api.Module{Name: "m", Decls: times(n, d)}, want)
		}
	}
	for n, want := range map[int]api.Errno{0: api.OK, 1: api.OK, api.MaxParams: api.OK, api.MaxParams + 1: api.ErrBig, 1000: api.ErrBig} {
		isRightDecl(t, fmt.Sprint(n, " parameters"), api.Decl{Kind: api.DFn, Name: "f", Params: times(n, api.Param{Name: "a", Type: api.TInt})}, want)
		isRightExpr(t, fmt.Sprint(n, " arguments"), call("f", times(n, num(1))...), want)
		isRightExpr(t, fmt.Sprint(n, " arguments of another module's"), farCall("k", "f", times(n, num(1))...), want)
		isRightStmt(t, fmt.Sprint(n, " arguments of a statement"), api.Stmt{Kind: api.SDo, E: one(call("f", times(n, num(1))...))}, want)
	}
	isRight(t, "a long function", fnOf(times(5000, show(num(1)))...), api.OK)
}

// F6.1: the depth

// nests: the ways in which an expression is one deeper in another.
func nests() map[string]func(e api.Expr) api.Expr {
	return map[string]func(e api.Expr) api.Expr{
		"-":              func(e api.Expr) api.Expr { return un(api.UNeg, e) },
		"!":              func(e api.Expr) api.Expr { return un(api.UNot, e) },
		"int(..)":        func(e api.Expr) api.Expr { return un(api.UInt, e) },
		"float(..)":      func(e api.Expr) api.Expr { return un(api.UFloat, e) },
		"arguments":      func(e api.Expr) api.Expr { return call("f", num(1), e) },
		"far arguments":  func(e api.Expr) api.Expr { return farCall("k", "f", e) },
		"1 - (1 - ..)":   func(e api.Expr) api.Expr { return bin(api.BSub, num(1), e) },
		"1 < (1 < ..)":   func(e api.Expr) api.Expr { return bin(api.BLt, num(1), e) },
		"(.. < 1) < 1":   func(e api.Expr) api.Expr { return bin(api.BLt, e, num(1)) },
		"a || (a || ..)": func(e api.Expr) api.Expr { return bin(api.BOr, name("a"), e) },
	}
}

// nested: a name with n times that way round it.
func nested(way func(e api.Expr) api.Expr, n int) api.Expr {
	e := name("x")
	for range n {
		e = way(e)
	}
	return e
}

// marked: how many of the ways add no depth: a mark puts only what has a mark itself into parentheses, so the innermost one is free.
func marked(way func(e api.Expr) api.Expr) int {
	if way(name("x")).Kind == api.EBin {
		return 1
	}
	return 0
}

func TestDepthOfExpressionsAtMaxDepth(t *testing.T) {
	for what, way := range nests() {
		free := marked(way)
		for _, n := range []int{0, 1, 2, 30, 31, 32, 33, 34, 100} {
			want, in, deeper := deepIf(n > api.MaxDepth), deepIf(n+1 > api.MaxDepth), deepIf(n+2 > api.MaxDepth)
			e := nested(way, n+free)
			isRightAlone(t, fmt.Sprint(n, " times ", what), e, want)
			isRight(t, fmt.Sprint("a constant of ", n, " times ", what), constOf(e), want)
			isRight(t, fmt.Sprint("a statement of ", n, " times ", what), fnOf(show(e)), in)
			isRight(t, fmt.Sprint("a return of ", n, " times ", what), fnOf(api.Stmt{Kind: api.SReturn, E: one(e)}), in)
			isRight(t, fmt.Sprint("a block of ", n, " times ", what), fnOf(api.Stmt{Kind: api.STry, Name: "t", Else: []api.Stmt{show(e)}}), deeper)
			isRight(t, fmt.Sprint("while ", n, " times ", what), fnOf(api.Stmt{Kind: api.SWhile, E: one(e)}), in)
		}
	}
}

func deepIf(yes bool) api.Errno {
	if yes {
		return api.ErrDeep
	}
	return api.OK
}

// blocks: the ways in which a block stands in another.
func blocks() map[string]func(l []api.Stmt) api.Stmt {
	return map[string]func(l []api.Stmt) api.Stmt{
		"if":    func(l []api.Stmt) api.Stmt { return api.Stmt{Kind: api.SIf, E: one(num(1)), Body: l} },
		"else":  func(l []api.Stmt) api.Stmt { return api.Stmt{Kind: api.SIf, E: one(num(1)), Else: l} },
		"while": func(l []api.Stmt) api.Stmt { return api.Stmt{Kind: api.SWhile, E: one(num(1)), Body: l} },
		"try":   func(l []api.Stmt) api.Stmt { return api.Stmt{Kind: api.STry, Name: "t", Body: l} },
		"catch": func(l []api.Stmt) api.Stmt { return api.Stmt{Kind: api.STry, Name: "t", Else: l} },
	}
}

func TestDepthOfBlocksAtMaxDepth(t *testing.T) {
	for what, way := range blocks() {
		for _, n := range []int{1, 2, 30, 31, 32, 33, 100} {
			l := []api.Stmt{show(num(1))}
			for range n {
				l = []api.Stmt{way(l)}
			}
			isRight(t, fmt.Sprint(n, " blocks by ", what), fnOf(l...), deepIf(n+1 > api.MaxDepth))
		}
		l := []api.Stmt{show(un(api.UNeg, num(1)))}
		for range 30 {
			l = []api.Stmt{way(l)}
		}
		isRight(t, "30 blocks by "+what+" and a -", fnOf(l...), api.OK)
		isRight(t, "31 blocks by "+what+" and a -", fnOf(way(l)), api.ErrDeep)
	}
	empty := []api.Stmt{{Kind: api.STry, Name: "t"}}
	for range 30 {
		empty = []api.Stmt{{Kind: api.STry, Name: "t", Else: empty}}
	}
	isRight(t, "31 empty blocks", fnOf(empty...), api.OK)
	isRight(t, "32 empty blocks", fnOf(api.Stmt{Kind: api.STry, Name: "t", Else: empty}), api.ErrDeep)
	isRight(t, "many in a row", fnOf(times(100, api.Stmt{Kind: api.SWhile, E: one(num(1))})...), api.OK)
}

func TestWhatIsNotNestedIsNotDeep(t *testing.T) {
	for _, op := range []int{api.BAdd, api.BSub, api.BMul, api.BRem, api.BAnd, api.BOr} {
		e := name("x")
		for range 5000 {
			e = bin(op, e, name("x"))
		}
		if got := tree.RightExpr(e); got != api.OK {
			t.Errorf("RightExpr of a long row of %d: %d", op, got)
		}
		if got := tree.Depth(constOf(e)); got != 0 {
			t.Errorf("Depth of a long row of %d: %d", op, got)
		}
	}
}

func TestVeryDeepOnes(t *testing.T) {
	const deep = 1 << 16
	for _, way := range nests() {
		if e := nested(way, deep); tree.RightExpr(e) != api.ErrDeep || tree.Right(constOf(e)) != api.ErrDeep {
			t.Error("an expression that is nested 2^16 deep is not told")
		}
	}
	for _, way := range blocks() {
		var l []api.Stmt
		for range deep {
			l = []api.Stmt{way(l)}
		}
		m := fnOf(l...)
		if tree.Right(m) != api.ErrDeep || tree.Depth(m) < deep || !tree.Same(m, tree.Copy(m)) || tree.Nodes(m) < deep || len(tree.Uses(m)) != 0 {
			t.Error("a block that is nested 2^16 deep is not told")
		}
	}
	e := name("x")
	for range deep {
		e = bin(api.BAdd, e, far("k", "x"))
	}
	m := constOf(e)
	if tree.Right(m) != api.OK || !tree.Same(m, tree.Copy(m)) || tree.Nodes(m) != 2*deep+2 || fmt.Sprint(tree.Uses(m)) != "[k]" {
		t.Error("a row of 2^16 is not right")
	}
	if _, e := tree.Print(m); e != api.ErrBig {
		t.Errorf("Print of a row of 2^16: %d", e)
	}
}

// F6.1: of several things that are wrong the first

// ordered: a module, and what is wrong in it in the order in which it is looked for.
func ordered() []struct {
	what string
	do   func(m *api.Module)
	want api.Errno
} {
	wrap := func(e *api.Expr) {
		for range 33 {
			*e = un(api.UNeg, *e)
		}
	}
	body := func(m *api.Module, i int) *api.Stmt { return &m.Decls[1].Body[i] }
	return []struct {
		what string
		do   func(m *api.Module)
		want api.Errno
	}{
		{"the module's name", func(m *api.Module) { m.Name = "if" }, api.ErrName},
		{"too many imports", func(m *api.Module) { m.Imports = append(m.Imports, times(20, "k")...) }, api.ErrBig},
		{"an import", func(m *api.Module) { m.Imports[0] = "" }, api.ErrName},
		{"a later import", func(m *api.Module) { m.Imports[1] = long(33) }, api.ErrBig},
		{"one more import", func(m *api.Module) { m.Imports[2] = "9" }, api.ErrName},
		{"too many declarations", func(m *api.Module) { m.Decls = append(m.Decls, times(65, sampleDecls()[0])...) }, api.ErrBig},
		{"a deep constant", func(m *api.Module) { wrap(&m.Decls[0].E[0]) }, api.ErrDeep},
		{"a constant's type", func(m *api.Module) { m.Decls[0].Type = 4 }, api.ErrArg},
		{"a constant's name", func(m *api.Module) { m.Decls[0].Name = "9" }, api.ErrName},
		{"an operator", func(m *api.Module) { m.Decls[0].E[0].Op = 14 }, api.ErrArg},
		{"a far module", func(m *api.Module) { m.Decls[0].E[0].Kids[0].Mod = "9" }, api.ErrName},
		{"a far name", func(m *api.Module) { m.Decls[0].E[0].Kids[0].Name = long(33) }, api.ErrBig},
		{"far arguments", func(m *api.Module) { m.Decls[0].E[0].Kids[0].Kids = times(9, api.Expr{}) }, api.ErrBig},
		{"a far argument", func(m *api.Module) { m.Decls[0].E[0].Kids[0].Kids[0] = name("if") }, api.ErrName},
		{"the right one of two", func(m *api.Module) { m.Decls[0].E[0].Kids[1].Value.Bits = 1 << 63 }, api.ErrArg},
		{"a deep function", func(m *api.Module) { m.Decls[1].Body[2].Else = deepBlock(m.Decls[1].Body[2].Else) }, api.ErrDeep},
		{"a function with E", func(m *api.Module) { m.Decls[1].E = one(num(1)) }, api.ErrArg},
		{"a function's name", func(m *api.Module) { m.Decls[1].Name = "" }, api.ErrName},
		{"too many parameters", func(m *api.Module) { m.Decls[1].Params = append(m.Decls[1].Params, times(7, api.Param{})...) }, api.ErrBig},
		{"a parameter's name", func(m *api.Module) { m.Decls[1].Params[0].Name = "" }, api.ErrName},
		{"a parameter's type", func(m *api.Module) { m.Decls[1].Params[0].Type = 0 }, api.ErrArg},
		{"a later parameter's name", func(m *api.Module) { m.Decls[1].Params[1].Name = long(33) }, api.ErrBig},
		{"a later parameter's type", func(m *api.Module) { m.Decls[1].Params[1].Type = -1 }, api.ErrArg},
		{"a name that is too long", func(m *api.Module) { body(m, 0).Name = long(33) }, api.ErrBig},
		{"an expression's field", func(m *api.Module) { body(m, 0).E[0].Value.Type = 1 }, api.ErrArg},
		{"a call's name", func(m *api.Module) { body(m, 0).E[0].Name = "" }, api.ErrName},
		{"too many arguments", func(m *api.Module) { body(m, 0).E[0].Kids = append(body(m, 0).E[0].Kids, times(8, api.Expr{})...) }, api.ErrBig},
		{"an argument", func(m *api.Module) { body(m, 0).E[0].Kids[0] = api.Expr{} }, api.ErrArg},
		{"a later argument", func(m *api.Module) { body(m, 0).E[0].Kids[1] = name("") }, api.ErrName},
		{"a statement without E", func(m *api.Module) { body(m, 1).E = nil }, api.ErrArg},
		{"a statement's E", func(m *api.Module) { body(m, 1).E[0].Kids[1].Name = long(33) }, api.ErrBig},
		{"a statement in Body", func(m *api.Module) { body(m, 1).Body[0].E[0].Name = "9" }, api.ErrName},
		{"a later one", func(m *api.Module) { body(m, 1).Body[1].Kind = 10 }, api.ErrArg},
		{"a statement in Else", func(m *api.Module) { body(m, 1).Else[0].E[0].Name = long(33) }, api.ErrBig},
		{"a try with E", func(m *api.Module) { body(m, 2).E = one(num(1)) }, api.ErrArg},
		{"a try's name", func(m *api.Module) { body(m, 2).Name = "" }, api.ErrName},
		{"a try's Body", func(m *api.Module) { body(m, 2).Body[0].E = nil }, api.ErrArg},
		{"a try's Else", func(m *api.Module) { body(m, 2).Else[0].Name = long(33) }, api.ErrBig},
		{"a deep variable", func(m *api.Module) { wrap(&m.Decls[2].E[0]) }, api.ErrDeep},
		{"a variable that is exported", func(m *api.Module) { m.Decls[2].Export = true }, api.ErrArg},
		{"a variable's name", func(m *api.Module) { m.Decls[2].Name = "9" }, api.ErrName},
		{"a variable's E", func(m *api.Module) { m.Decls[2].E[0].Kind = 0 }, api.ErrArg},
		{"the last one's name", func(m *api.Module) { m.Decls[3].Name = long(33) }, api.ErrBig},
	}
}

// deepBlock: one that has l somewhere, and goes deeper than there may be.
func deepBlock(l []api.Stmt) []api.Stmt {
	deep := []api.Stmt{}
	for range 33 {
		deep = []api.Stmt{{Kind: api.STry, Name: "t", Body: deep}}
	}
	return append(append([]api.Stmt{}, l...), deep...)
}

// longModule: what ordered's faults are put in.
func longModule() api.Module {
	return roomy(api.Module{Name: "m", Imports: []string{"k", "l", "n"}, Decls: []api.Decl{
		{Kind: api.DConst, Name: "C", Type: api.TInt, E: one(bin(api.BAdd, farCall("k", "X", num(7)), num(1)))},
		{Kind: api.DFn, Name: "f", Type: api.TInt, Params: []api.Param{{Name: "a", Type: api.TInt}, {Name: "b", Type: api.TBool}}, Body: []api.Stmt{
			{Kind: api.SLet, Name: "x", E: one(call("g", num(1), num(2)))},
			{Kind: api.SIf, E: one(bin(api.BLt, num(1), name("x"))), Body: []api.Stmt{show(name("x")), show(name("y"))}, Else: []api.Stmt{show(name("z"))}},
			{Kind: api.STry, Name: "t", Body: []api.Stmt{show(num(1))}, Else: []api.Stmt{{Kind: api.SSet, Name: "x", E: one(num(3))}}},
		}},
		{Kind: api.DVar, Name: "v", Type: api.TInt, E: one(num(4))},
		{Kind: api.DFn, Name: "last"},
	}})
}

func TestTheFirstOfSeveralFaultsIsTold(t *testing.T) {
	isRight(t, "the module without a fault", longModule(), api.OK)
	l := ordered()
	for i, a := range l {
		m := longModule()
		a.do(&m)
		isRight(t, a.what, m, a.want)
		for _, b := range l[i+1:] {
			m := longModule()
			b.do(&m)
			func() {
				// A later fault may have taken away what an earlier one is put in.
				defer func() {
					if recover() != nil {
						m = longModule()
						a.do(&m)
					}
				}()
				a.do(&m)
			}()
			isRight(t, a.what+" and "+b.what, m, a.want)
		}
	}
}

func TestRightExprTellsTheDepthFirst(t *testing.T) {
	for _, wrong := range []api.Expr{{}, name(""), name(long(33)), un(9, num(1)), lit(9, 9), far("k", "")} {
		e := wrong
		for range 32 {
			e = un(api.UNeg, e)
		}
		if got, want := tree.RightExpr(e), modelExpr(wrong); got != want || want == api.OK {
			t.Errorf("RightExpr of a fault at 32: %d, not %d", got, want)
		}
		e = un(api.UNeg, e)
		if got := tree.RightExpr(e); got != api.ErrDeep {
			t.Errorf("RightExpr of a fault at 33: %d", got)
		}
		if got := tree.RightExpr(bin(99, wrong, e)); got != api.ErrDeep {
			t.Errorf("RightExpr of a fault ahead of what is too deep: %d", got)
		}
	}
}

func TestRightAsTheModelSays(t *testing.T) {
	x := mixer(61)
	seen := map[api.Errno]int{}
	for range 6000 {
		m := x.spoiled()
		before := viewer(true).module(m)
		got, want := tree.Right(m), modelRight(m)
		if got != want {
			t.Fatalf("Right of %s: %d, not %d", moduleKey(m), got, want)
		}
		seen[got]++
		for _, e := range allExprs(m) {
			if got, want := tree.RightExpr(e), modelRightExpr(e); got != want {
				t.Fatalf("RightExpr of %s: %d, not %d", exprKey(e), got, want)
			}
		}
		if viewer(true).module(m) != before {
			t.Fatalf("%s was changed", before)
		}
	}
	if seen[api.OK] < 200 || seen[api.ErrArg] < 200 || seen[api.ErrName] < 200 || seen[api.ErrBig] < 50 {
		t.Errorf("few faults of a kind: %v", seen)
	}
}
