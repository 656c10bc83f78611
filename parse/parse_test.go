package parse_test

import (
	"slices"
	"strings"
	"testing"

	"foundry/api"
	"foundry/floats"
	"foundry/parse"
)

// The chapter's examples

func TestExamples(t *testing.T) {
	isModule(t, "module m; import k; export const X: int = k.Y + 1;", api.Module{Name: "m", Imports: []string{"k"}, Decls: []api.Decl{
		{Kind: api.DConst, Export: true, Name: "X", Type: api.TInt, E: one(bin(api.BAdd, far("k", "Y"), num(1)))},
	}})
	isExpr(t, "1 + 2 * 3", bin(api.BAdd, num(1), bin(api.BMul, num(2), num(3))))
	isExpr(t, "- -x", un(api.UNeg, un(api.UNeg, name("x"))))
	isExpr(t, "!(a)", un(api.UNot, name("a")))
	wrongExpr(t, api.ErrSyntax, "a < b ^< c")
	wrongModule(t, api.ErrSyntax, "module m^")
	wrongModule(t, api.ErrSyntax, "^")
	wrongModule(t, api.ErrSyntax, "module m; export ^var v: int = 1;")
}

// P701: what a text is

func TestFullModule(t *testing.T) {
	isModule(t, fullText, fullModule())
}

func TestModulesAndImports(t *testing.T) {
	isModule(t, "module m;", api.Module{Name: "m"})
	isModule(t, "module m; import k;", api.Module{Name: "m", Imports: []string{"k"}})
	isModule(t, "module m; import b; import a; import b; import m;", api.Module{Name: "m", Imports: []string{"b", "a", "b", "m"}})
	wrongModule(t, api.ErrSyntax, "^x")
	wrongModule(t, api.ErrSyntax, "^; module m;")
	wrongModule(t, api.ErrSyntax, "module ^;")
	wrongModule(t, api.ErrSyntax, "module m ^n;")
	wrongModule(t, api.ErrSyntax, "module m; ^;")
	wrongModule(t, api.ErrSyntax, "module m; ^module n;")
	wrongModule(t, api.ErrSyntax, "module m; import ^;")
	wrongModule(t, api.ErrSyntax, "module m; import k^, l;")
	wrongModule(t, api.ErrSyntax, "module m; import k^.l;")
	wrongModule(t, api.ErrSyntax, "module m; export ^import k;")
	wrongModule(t, api.ErrSyntax, "module m; var v: int = 1; ^import k;")
	wrongModule(t, api.ErrSyntax, "module m; fn f() { } ^import k;")
}

func TestConstantsAndVariables(t *testing.T) {
	holder := func(kind int, export bool, typ int, e api.Expr) api.Module {
		return module("m", api.Decl{Kind: kind, Export: export, Name: "X", Type: typ, E: one(e)})
	}
	isModule(t, "module m; const X: int = 1;", holder(api.DConst, false, api.TInt, num(1)))
	isModule(t, "module m; export const X: float = 0.5;", holder(api.DConst, true, api.TFloat, lit(api.TFloat, 0x3fe0000000000000)))
	isModule(t, "module m; var X: bool = a && b;", holder(api.DVar, false, api.TBool, bin(api.BAnd, name("a"), name("b"))))
	isModule(t, "module m; var X: int = 2; var X: int = 2;", module("m", holder(api.DVar, false, api.TInt, num(2)).Decls[0], holder(api.DVar, false, api.TInt, num(2)).Decls[0]))
	wrongModule(t, api.ErrSyntax, "module m; export ^export const X: int = 1;")
	wrongModule(t, api.ErrSyntax, "module m; export ^;")
	wrongModule(t, api.ErrSyntax, "module m; export^")
	wrongModule(t, api.ErrSyntax, "module m; ^X: int = 1;")
	wrongModule(t, api.ErrSyntax, "module m; const X ^= 1;")
	wrongModule(t, api.ErrSyntax, "module m; const X: ^= 1;")
	wrongModule(t, api.ErrSyntax, "module m; const X: ^X = 1;")
	wrongModule(t, api.ErrSyntax, "module m; const X: int ^;")
	wrongModule(t, api.ErrSyntax, "module m; const X: int ^== 1;")
	wrongModule(t, api.ErrSyntax, "module m; const X: int = ^;")
	wrongModule(t, api.ErrSyntax, "module m; const X: int = 1 ^}")
	wrongModule(t, api.ErrSyntax, "module m; const X: int = 1; ^1")
	wrongModule(t, api.ErrSyntax, "module m; var ^: int = 1;")
	wrongModule(t, api.ErrSyntax, "module m; ^let x = 1;")
	wrongModule(t, api.ErrSyntax, "module m; ^x = 1;")
	wrongModule(t, api.ErrSyntax, "module m; ^{ }")
}

func TestFunctions(t *testing.T) {
	param := func(s string, typ int) api.Param { return api.Param{Name: s, Type: typ} }
	fn := func(export bool, typ int, l ...api.Param) api.Module {
		return module("m", api.Decl{Kind: api.DFn, Export: export, Name: "f", Type: typ, Params: l})
	}
	isModule(t, "module m; fn f() { }", fn(false, api.TNone))
	isModule(t, "module m; export fn f() { }", fn(true, api.TNone))
	isModule(t, "module m; fn f(): int { }", fn(false, api.TInt))
	isModule(t, "module m; fn f(): float { }", fn(false, api.TFloat))
	isModule(t, "module m; export fn f(): bool { }", fn(true, api.TBool))
	isModule(t, "module m; fn f(a: int) { }", fn(false, api.TNone, param("a", api.TInt)))
	isModule(t, "module m; fn f(a: float, a: bool, b: int): int { }", fn(false, api.TInt, param("a", api.TFloat), param("a", api.TBool), param("b", api.TInt)))
	isModule(t, "module m; fn f() { show 1; show 2; }", module("m", api.Decl{Kind: api.DFn, Name: "f", Body: []api.Stmt{show(1), show(2)}}))
	isModule(t, "module m; fn f() { } fn f() { show 1; } var v: int = 1;", module("m", fn(false, api.TNone).Decls[0],
		api.Decl{Kind: api.DFn, Name: "f", Body: []api.Stmt{show(1)}}, api.Decl{Kind: api.DVar, Name: "v", Type: api.TInt, E: one(num(1))}))
	wrongModule(t, api.ErrSyntax, "module m; fn ^() { }")
	wrongModule(t, api.ErrSyntax, "module m; fn f ^{ }")
	wrongModule(t, api.ErrSyntax, "module m; fn f^.g() { }")
	wrongModule(t, api.ErrSyntax, "module m; fn f(^, a: int) { }")
	wrongModule(t, api.ErrSyntax, "module m; fn f(a^) { }")
	wrongModule(t, api.ErrSyntax, "module m; fn f(a^, b: int) { }")
	wrongModule(t, api.ErrSyntax, "module m; fn f(a: ^a) { }")
	wrongModule(t, api.ErrSyntax, "module m; fn f(a: int ^b: int) { }")
	wrongModule(t, api.ErrSyntax, "module m; fn f(a: int, ^) { }")
	wrongModule(t, api.ErrSyntax, "module m; fn f(a: int ^= 1) { }")
	wrongModule(t, api.ErrSyntax, "module m; fn f(^1) { }")
	wrongModule(t, api.ErrSyntax, "module m; fn f() ^;")
	wrongModule(t, api.ErrSyntax, "module m; fn f() ^int { }")
	wrongModule(t, api.ErrSyntax, "module m; fn f(): ^{ }")
	wrongModule(t, api.ErrSyntax, "module m; fn f() { ^fn g() { } }")
	wrongModule(t, api.ErrSyntax, "module m; fn f() { ^")
	wrongModule(t, api.ErrSyntax, "module m; fn f() { } ^;")
	wrongModule(t, api.ErrSyntax, "module m; fn f() { } ^}")
}

func TestStatements(t *testing.T) {
	a := name("a")
	some := []api.Stmt{show(1)}
	more := []api.Stmt{show(2), show(3)}
	isBody(t, "let x = a;", api.Stmt{Kind: api.SLet, Name: "x", E: one(a)})
	isBody(t, "x = a;", api.Stmt{Kind: api.SSet, Name: "x", E: one(a)})
	isBody(t, "x = y == z;", api.Stmt{Kind: api.SSet, Name: "x", E: one(bin(api.BEq, name("y"), name("z")))})
	isBody(t, "if a { }", api.Stmt{Kind: api.SIf, E: one(a)})
	isBody(t, "if a { } else { }", api.Stmt{Kind: api.SIf, E: one(a)})
	isBody(t, "if a { show 1; }", api.Stmt{Kind: api.SIf, E: one(a), Body: some})
	isBody(t, "if a { show 1; } else { show 2; show 3; }", api.Stmt{Kind: api.SIf, E: one(a), Body: some, Else: more})
	isBody(t, "if a { } else { show 1; }", api.Stmt{Kind: api.SIf, E: one(a), Else: some})
	isBody(t, "if a { if a { } else { show 1; } }", api.Stmt{Kind: api.SIf, E: one(a), Body: []api.Stmt{{Kind: api.SIf, E: one(a), Else: some}}})
	isBody(t, "if a { if a { } } else { show 1; }", api.Stmt{Kind: api.SIf, E: one(a), Body: []api.Stmt{{Kind: api.SIf, E: one(a)}}, Else: some})
	isBody(t, "while a { }", api.Stmt{Kind: api.SWhile, E: one(a)})
	isBody(t, "while a { show 2; show 3; }", api.Stmt{Kind: api.SWhile, E: one(a), Body: more})
	isBody(t, "return;", api.Stmt{Kind: api.SReturn})
	isBody(t, "return a;", api.Stmt{Kind: api.SReturn, E: one(a)})
	isBody(t, "show a;", api.Stmt{Kind: api.SShow, E: one(a)})
	isBody(t, "fail a;", api.Stmt{Kind: api.SFail, E: one(a)})
	isBody(t, "try { } catch x { }", api.Stmt{Kind: api.STry, Name: "x"})
	isBody(t, "try { show 1; } catch x { show 2; show 3; }", api.Stmt{Kind: api.STry, Name: "x", Body: some, Else: more})
	isBody(t, "f();", api.Stmt{Kind: api.SDo, E: one(call("f"))})
	isBody(t, "f(1, a);", api.Stmt{Kind: api.SDo, E: one(call("f", num(1), a))})
	isBody(t, "k.f();", api.Stmt{Kind: api.SDo, E: one(farCall("k", "f"))})
	isBody(t, "k.f(a);", api.Stmt{Kind: api.SDo, E: one(farCall("k", "f", a))})
	isBody(t, "show 1; return; show 2; show 3;", show(1), api.Stmt{Kind: api.SReturn}, show(2), show(3))
}

func TestWrongStatements(t *testing.T) {
	for _, marked := range []string{
		"^;", "^1;", "^(f());", "^-f();", "^int(1);", "^input;", "^true;", "^{ }", "^else { }", "^catch x { }", "^const X: int = 1;", "^var x: int = 1;", "^export fn",
		"let ^= 1;", "let x^;", "let x^: int = 1;", "let x ^== 1;", "let x = ^;", "let x = 1^", "let x = 1 ^}", "let x^.y = 1;",
		"if ^{ }", "if a^;", "if a { } else ^;", "if a { } else ^if b { }", "if a { } else { } ^else { }", "if a { ^", "if a ^b", "if (a) ^show 1;",
		"while ^{ }", "while a ^show 1;", "while a { } ^else { }",
		"return ^}", "return a ^}", "return a^, b;", "return ^return;", "show ^;", "show a^, b;", "fail ^;", "fail 1^",
		"try ^a", "try { } ^else", "try { } ^", "try { } catch ^{ }", "try { } catch ^1", "try { } catch x ^;", "try { } catch x^.y { }", "try { } ^show 1;", "try { } catch x { } ^catch y { }",
		"x^;", "x ^+ 1;", "x ^: int = 1;", "x ^== 1;", "x = ^;", "x = y ^= 1;", "x = 1^", "x ^y = 1;", "x ^{ }", "x^",
		"k.^", "k.^1", "k.^(", "k.f^;", "k.f ^= 1;", "k.f^.g();", "k.f^",
		"f(^", "f(^,", "f(1^", "f(1 ^2);", "f(1, ^);", "f() ^+ 1;", "f()^.g();", "f()^();", "f() ^= 1;", "f(1)^", "f(1) ^}", "k.f() ^- 1;", "k.f(1)^",
	} {
		wrongBody(t, api.ErrSyntax, marked)
	}
}

func TestReservedWordsAreNoNames(t *testing.T) {
	begins := strings.Fields("if let return show fail try while") // what a statement may begin with
	for _, word := range allTokens()[4:27] {
		for _, x := range []string{
			"module ^@;", "module m; import ^@;", "module m; const ^@: int = 1;", "module m; export const ^@: int = 1;", "module m; var ^@: int = 1;", "module m; fn ^@() { }",
			"module m; fn f(^@: int) { }", "module m; fn f(a: int, ^@: int) { }", "module m; fn f() { let ^@ = 1; }", "module m; fn f() { try { } catch ^@ { } }",
			"module m; fn f() { k.^@(); }", "module m; var v: int = k.^@;", "module m; var v: int = k.^@();",
		} {
			wrongModule(t, api.ErrSyntax, strings.ReplaceAll(x, "@", word))
		}
		if !slices.Contains(begins, word) {
			wrongBody(t, api.ErrSyntax, "^"+word+" = 1; }")
			wrongBody(t, api.ErrSyntax, "^"+word+".f(); }")
		}
	}
	isModule(t, "module Module; import _if; var iff: int = whiles;", api.Module{Name: "Module", Imports: []string{"_if"}, Decls: []api.Decl{
		{Kind: api.DVar, Name: "iff", Type: api.TInt, E: one(name("whiles"))},
	}})
}

// P702

func TestLeaves(t *testing.T) {
	isExpr(t, "0", num(0))
	isExpr(t, "007", num(7))
	isExpr(t, "9223372036854775807", num(1<<63-1))
	isExpr(t, "1.5", lit(api.TFloat, 0x3ff8000000000000))
	isExpr(t, "0.0", lit(api.TFloat, 0))
	isExpr(t, "0x1.8p+0", lit(api.TFloat, 0x3ff8000000000000))
	isExpr(t, "0x1p-1074", lit(api.TFloat, 1))
	isExpr(t, "true", lit(api.TBool, 1))
	isExpr(t, "false", lit(api.TBool, 0))
	isExpr(t, "inf", lit(api.TFloat, infinity))
	isExpr(t, "nan", lit(api.TFloat, floats.NaN))
	isExpr(t, "-inf", un(api.UNeg, lit(api.TFloat, infinity)))
	isExpr(t, "input", api.Expr{Kind: api.EInput})
	isExpr(t, "x", name("x"))
	isExpr(t, "k.X", far("k", "X"))
	isExpr(t, "k . X", far("k", "X"))
	isExpr(t, "f()", call("f"))
	isExpr(t, "f(1)", call("f", num(1)))
	isExpr(t, "f(1, a || b, -2)", call("f", num(1), bin(api.BOr, name("a"), name("b")), un(api.UNeg, num(2))))
	isExpr(t, "k.f()", farCall("k", "f"))
	isExpr(t, "k.f(x, k.X)", farCall("k", "f", name("x"), far("k", "X")))
	isExpr(t, "f(g(), k.h(1))", call("f", call("g"), farCall("k", "h", num(1))))
	isExpr(t, "int(x)", un(api.UInt, name("x")))
	isExpr(t, "float(1 + 2)", un(api.UFloat, bin(api.BAdd, num(1), num(2))))
	isExpr(t, "int(float(input))", un(api.UInt, un(api.UFloat, api.Expr{Kind: api.EInput})))
}

func TestParenthesesLeaveNoTrace(t *testing.T) {
	isExpr(t, "(x)", name("x"))
	isExpr(t, "(((1)))", num(1))
	isExpr(t, "(a + b) * c", bin(api.BMul, bin(api.BAdd, name("a"), name("b")), name("c")))
	isExpr(t, "a * (b + c)", bin(api.BMul, name("a"), bin(api.BAdd, name("b"), name("c"))))
	isExpr(t, "(a < b) < (c)", bin(api.BLt, bin(api.BLt, name("a"), name("b")), name("c")))
	isExpr(t, "-(1)", un(api.UNeg, num(1)))
	isExpr(t, "-(a + b)", un(api.UNeg, bin(api.BAdd, name("a"), name("b"))))
	isExpr(t, "f((1), (2))", call("f", num(1), num(2)))
	isExpr(t, "int((x))", un(api.UInt, name("x")))
}

func TestOperatorsOfOne(t *testing.T) {
	a, b := name("a"), name("b")
	isExpr(t, "--x", un(api.UNeg, un(api.UNeg, name("x"))))
	isExpr(t, "!!x", un(api.UNot, un(api.UNot, name("x"))))
	isExpr(t, "-!-x", un(api.UNeg, un(api.UNot, un(api.UNeg, name("x")))))
	isExpr(t, "-f(1)", un(api.UNeg, call("f", num(1))))
	isExpr(t, "-k.X", un(api.UNeg, far("k", "X")))
	isExpr(t, "-int(x)", un(api.UNeg, un(api.UInt, name("x"))))
	isExpr(t, "a - -b", bin(api.BSub, a, un(api.UNeg, b)))
	isExpr(t, "a--b", bin(api.BSub, a, un(api.UNeg, b)))
	for i, mark := range marks() {
		for o, sign := range []string{"-", "!"} {
			isExpr(t, sign+"a "+mark+" b", bin(i+1, un(o+1, a), b))
			isExpr(t, "a "+mark+sign+"b", bin(i+1, a, un(o+1, b)))
			isExpr(t, sign+"(a "+mark+" b)", un(o+1, bin(i+1, a, b)))
		}
	}
}

func TestOperatorsOfTwoInOneAnother(t *testing.T) {
	a, b, c := name("a"), name("b"), name("c")
	for i, first := range marks() {
		isExpr(t, "a "+first+" b", bin(i+1, a, b))
		isExpr(t, "a"+first+"b", bin(i+1, a, b))
		for j, second := range marks() {
			text := "a " + first + " b " + second + " c"
			left, right := levels()[i], levels()[j]
			switch {
			case left == 3 && right == 3:
				wrongExpr(t, api.ErrSyntax, "a "+first+" b ^"+second+" c")
			case left >= right:
				isExpr(t, text, bin(j+1, bin(i+1, a, b), c))
			default:
				isExpr(t, text, bin(i+1, a, bin(j+1, b, c)))
			}
			isExpr(t, "(a "+first+" b) "+second+" c", bin(j+1, bin(i+1, a, b), c))
			isExpr(t, "a "+first+" (b "+second+" c)", bin(i+1, a, bin(j+1, b, c)))
		}
	}
}

func TestLongRowsAreTakenFromTheLeft(t *testing.T) {
	for i, mark := range marks() {
		if levels()[i] == 3 {
			continue
		}
		text, want := "a", name("a")
		for n := range uint64(100) {
			text += mark + strings.Repeat("9", int(n)%3+1)
			want = bin(i+1, want, num([]uint64{9, 99, 999}[n%3]))
		}
		isExpr(t, text, want)
	}
	text, want := "1", num(1)
	for range 511 {
		text += "-1"
		want = bin(api.BSub, want, num(1))
	}
	if e, at, code := parse.Expr(text + " "); !same(e, want) || at != 0 || code != api.OK {
		t.Errorf("a row of 1023 tokens: %d, %d", at, code)
	}
}

func TestWrongExprs(t *testing.T) {
	for _, marked := range []string{
		"^", " \t// a remark\n ^", "^)", "^;", "^*a", "^+ a", "^== a", "^= a", "^.x", "^, a", "^{", "^:", "^bool(x)", "^let", "^module",
		"a ^b", "a ^1", "1 ^a", "1 ^2", "1^.x", "1^(2)", "1.5^.x", "a ^!b", "a ^= b", "a^, b", "a^)", "a ^{ }", "input^()", "inf^(1)", "true ^false", "a ^int(b)",
		"a +^", "a + ^* b", "a + ^)", "a && ^&& b", "a || ^", "a ^!", "- ^", "-^*a", "!^", "!^)", "- -^",
		"a < b ^> c", "a == b ^!= c", "a < b + c ^<= d", "a < b && c < d ^>= e", "f(a < b ^< c)",
		"(^", "(^)", "(a^", "(a ^b)", "(a^, b)", "(a)^(b)", "(a) ^b", "(a)^.x", "((a)^",
		"k.^", "k.^1", "k.^(x)", "k.x^.y", "k.^.x", "k.x ^y", "k.x()^.y", "k.^int",
		"f(^", "f(^,", "f(a^", "f(a ^b)", "f(a, ^)", "f(a,^, b)", "f(a^;", "f(a)^(b)", "f(a)^.x", "f() ^g()", "k.f(^", "k.f(a^", "k.f(a, ^", "k.f()^()",
		"int^", "int ^x", "int(^)", "int(a^, b)", "int(a^", "int(a)^(b)", "int^.x", "float^", "float ^1.5", "float(^)", "float(^", "float(1 ^2)",
	} {
		wrongExpr(t, api.ErrSyntax, marked)
	}
}

func TestExprIsNoModule(t *testing.T) {
	isWrong(t, parse.Expr, api.ErrSyntax, "^module m;")
	isWrong(t, parse.Expr, api.ErrSyntax, "x^;")
	isWrong(t, parse.Expr, api.ErrSyntax, "x ^}")
	isWrong(t, parse.Parse, api.ErrSyntax, "^1 + 2")
}
