package gen_test

import (
	"strings"
	"testing"

	"foundry/api"
)

// exprCase: an expression, and its code.
type exprCase struct{ text, want string }

// eachExpr holds the cases against Gen: each alone, and within other expressions and statements, where no place of a jump is in it.
func eachExpr(t *testing.T, cases []exprCase) {
	t.Helper()
	for _, c := range cases {
		eachBody(t, "", []bodyCase{{"show " + c.text + ";", c.want + "; show; return"}})
		if !strings.Contains(c.want, "jump") {
			eachBody(t, "", []bodyCase{
				{"let x = " + c.text + ";", c.want + "; put 3; return"},
				{"q = (" + c.text + ") == " + "(" + c.text + ");", c.want + "; " + c.want + "; bin ==; store 0 @m.q; return"},
				{"show p; show " + c.text + "; show q;", "get 0; show; " + c.want + "; show; load 0 @m.q; show; return"},
			})
		}
	}
}

func TestLiterals(t *testing.T) {
	eachExpr(t, []exprCase{
		{"0", "push 0"},
		{"1", "push 1"},
		{"9223372036854775807", "push 9223372036854775807"},
		{"1.5", "push 0x1.8p+0"},
		{"0.0", "push 0x0p+0"},
		{"inf", "push inf"},
		{"nan", "push nan"},
		{"true", "push true"},
		{"false", "push false"},
		{"(2)", "push 2"},
		{"input", "input"},
	})
}

func TestNames(t *testing.T) {
	eachExpr(t, []exprCase{
		{"p", "get 0"},
		{"r", "get 1"},
		{"t", "get 2"},
		{"C", "push 3"},
		{"D", "push 0x1.4p+1"},
		{"T", "push true"},
		{"N", "push -4"},
		{"v", "load 0 @m.v"},
		{"w", "load 0 @m.w"},
		{"q", "load 0 @m.q"},
		{"k.Y", "push 7"},
		{"j.Y", "push 0x1p-1"},
		{"k.C", "push 30"},
		{"k.B", "push true"},
		{"k.F", "push 0x1.8p+0"},
	})
}

// A local name that another module shows, or that is the module's own, is a local name; what is far stays far.
func TestLocalNamesThatOthersHave(t *testing.T) {
	eachBody(t, "", []bodyCase{
		{"let Y = 1; show Y; show k.Y; show j.Y;", "push 1; put 3; get 3; show; push 7; show; push 0x1p-1; show; return"},
		{"let F = p; F = F + 1; show k.F;", "get 0; put 3; get 3; push 1; bin +; put 3; push 0x1.8p+0; show; return"},
		{"let g = 2; show k.g(g);", "push 2; put 3; get 3; call 0 @k.g; show; return"},
		{"let m = 1; show m; m = 2;", "push 1; put 3; get 3; show; push 2; put 3; return"},
		{"let h = 1; k.h(); show h;", "push 1; put 3; call 0 @k.h; get 3; show; return"},
	})
	// The module's own name is not another module's.
	m := module(t, "const m: int = 5; var x: int = m; fn f(): int { x = m; return m; }")
	is(t, "a constant of the module's name", listing(objectOf(t, m), "f"), "push 5; store 0 @m.x; push 5; return")
	m = module(t, "var m: int = 5; fn f(): int { m = m + 1; return m; }")
	is(t, "a variable of the module's name", listing(objectOf(t, m), "f"), "load 0 @m.m; push 1; bin +; store 0 @m.m; load 0 @m.m; return")
	m = module(t, "fn m() { m(); }")
	is(t, "a function of the module's name", listing(objectOf(t, m), "m"), "call 0 @m.m; return")
}

// A local name that would hide a constant, a variable, a function or an import is refused.
func TestLocalNamesThatHide(t *testing.T) {
	for _, name := range []string{"C", "v", "two", "k", "f"} {
		refused(t, "let "+name, inF(t, "", "let "+name+" = 1;"), kAndJ(), 11, api.ErrTwice)
		refused(t, "let "+name+" in a block", inF(t, "", "if t { let "+name+" = 1; }"), kAndJ(), 11, api.ErrTwice)
		refused(t, "catch "+name, inF(t, "", "try { } catch "+name+" { }"), kAndJ(), 11, api.ErrTwice)
		refused(t, "parameter "+name, module(t, outerText+"fn f("+name+": int) { }"), kAndJ(), 11, api.ErrTwice)
	}
	for _, body := range []string{"let p = 1;", "let x = 1; let x = 2;", "let x = 1; if t { let x = 2; }", "try { } catch e { let e = 1; }"} {
		refused(t, body, inF(t, "", body), kAndJ(), 11, api.ErrTwice)
	}
}

func TestCalls(t *testing.T) {
	eachExpr(t, []exprCase{
		{"num()", "call 0 @m.num"},
		{"two(1, 1.5)", "push 1; push 0x1.8p+0; call 0 @m.two"},
		{"two(p, r)", "get 0; get 1; call 0 @m.two"},
		{"two(num(), w)", "call 0 @m.num; load 0 @m.w; call 0 @m.two"},
		{"two(p - v, r * D)", "get 0; load 0 @m.v; bin -; get 1; push 0x1.4p+1; bin *; call 0 @m.two"},
		{"k.n()", "call 0 @k.n"},
		{"k.g(1)", "push 1; call 0 @k.g"},
		{"k.g(k.n())", "call 0 @k.n; call 0 @k.g"},
		{"j.num()", "call 0 @j.num"},
		{"k.two(j.num(), k.g(num()))", "call 0 @j.num; call 0 @m.num; call 0 @k.g; call 0 @k.two"},
		{"two(input, k.two(r, two(C, w)))", "input; get 1; push 3; load 0 @m.w; call 0 @m.two; call 0 @k.two; call 0 @m.two"},
	})
	// A function may stand further down, and call itself.
	m := module(t, "fn f(a: int): int { return g(f(a)); } fn g(a: int): int { return f(g(a)); }")
	is(t, "f", listing(objectOf(t, m), "f"), "get 0; call 0 @m.f; call 0 @m.g; return")
	is(t, "g", listing(objectOf(t, m), "g"), "get 0; call 0 @m.g; call 0 @m.f; return")
}

func TestArgumentsInTheirOrder(t *testing.T) {
	m := module(t, "fn f(a: int, b: int, c: int, d: int, e: int, g: int, h: int, i: int): int { return f(8, h, g, e, 4, c, f(1, 2, 3, 4, 5, 6, 7, 8), a); }")
	is(t, "eight arguments", listing(objectOf(t, m), "f"),
		"push 8; get 6; get 5; get 4; push 4; get 2; push 1; push 2; push 3; push 4; push 5; push 6; push 7; push 8; call 0 @m.f; get 0; call 0 @m.f; return")
}

func TestOperatorsOfOne(t *testing.T) {
	eachExpr(t, []exprCase{
		{"-p", "get 0; un neg"},
		{"-1", "push 1; un neg"},
		{"!t", "get 2; un not"},
		{"int(r)", "get 1; un int"},
		{"float(p)", "get 0; un float"},
		{"--p", "get 0; un neg; un neg"},
		{"!!T", "push true; un not; un not"},
		{"-float(int(-w))", "load 0 @m.w; un neg; un int; un float; un neg"},
		{"-k.n()", "call 0 @k.n; un neg"},
	})
}

func TestOperatorsOfTwo(t *testing.T) {
	eachExpr(t, []exprCase{
		{"p + 1", "get 0; push 1; bin +"},
		{"p - 1", "get 0; push 1; bin -"},
		{"p * 1", "get 0; push 1; bin *"},
		{"p / 1", "get 0; push 1; bin /"},
		{"p % 1", "get 0; push 1; bin %"},
		{"p == 1", "get 0; push 1; bin =="},
		{"p != 1", "get 0; push 1; bin !="},
		{"p < 1", "get 0; push 1; bin <"},
		{"p <= 1", "get 0; push 1; bin <="},
		{"p > 1", "get 0; push 1; bin >"},
		{"p >= 1", "get 0; push 1; bin >="},
		{"1 - p", "push 1; get 0; bin -"},
		{"r / w", "get 1; load 0 @m.w; bin /"},
		{"t == q", "get 2; load 0 @m.q; bin =="},
		{"p - v - C", "get 0; load 0 @m.v; bin -; push 3; bin -"},
		{"p - (v - C)", "get 0; load 0 @m.v; push 3; bin -; bin -"},
		{"p + v * C", "get 0; load 0 @m.v; push 3; bin *; bin +"},
		{"(p + v) * C", "get 0; load 0 @m.v; bin +; push 3; bin *"},
		{"-(p + 1) < num() % 2", "get 0; push 1; bin +; un neg; call 0 @m.num; push 2; bin %; bin <"},
		// Nothing is worked out ahead, but the values of constants.
		{"1 + 2", "push 1; push 2; bin +"},
		{"C + N", "push 3; push -4; bin +"},
		{"1 / 0", "push 1; push 0; bin /"},
		{"C == C", "push 3; push 3; bin =="},
	})
}

func TestAnd(t *testing.T) {
	eachExpr(t, []exprCase{
		{"t && q", "get 2; unless 4; load 0 @m.q; jump 5; push false"},
		{"true && false", "push true; unless 4; push false; jump 5; push false"},
		// Nested to the left, to the right.
		{"t && q && T", "get 2; unless 4; load 0 @m.q; jump 5; push false; unless 8; push true; jump 9; push false"},
		{"t && (q && T)", "get 2; unless 8; load 0 @m.q; unless 6; push true; jump 7; push false; jump 9; push false"},
		{"t && q && T && k.B", "get 2; unless 4; load 0 @m.q; jump 5; push false; unless 8; push true; jump 9; push false; unless 12; push true; jump 13; push false"},
		{"t && (q && (T && k.B))", "get 2; unless 12; load 0 @m.q; unless 10; push true; unless 8; push true; jump 9; push false; jump 11; push false; jump 13; push false"},
		{"!(t && q)", "get 2; unless 4; load 0 @m.q; jump 5; push false; un not"},
		{"p < 1 && k.g(p)", "get 0; push 1; bin <; unless 7; get 0; call 0 @k.g; jump 8; push false"},
	})
}

func TestOr(t *testing.T) {
	eachExpr(t, []exprCase{
		{"t || q", "get 2; unless 4; push true; jump 5; load 0 @m.q"},
		{"false || true", "push false; unless 4; push true; jump 5; push true"},
		{"t || q || T", "get 2; unless 4; push true; jump 5; load 0 @m.q; unless 8; push true; jump 9; push true"},
		{"t || (q || T)", "get 2; unless 4; push true; jump 9; load 0 @m.q; unless 8; push true; jump 9; push true"},
		{"t || q || T || k.B", "get 2; unless 4; push true; jump 5; load 0 @m.q; unless 8; push true; jump 9; push true; unless 12; push true; jump 13; push true"},
		{"t || (q || (T || k.B))", "get 2; unless 4; push true; jump 13; load 0 @m.q; unless 8; push true; jump 13; push true; unless 12; push true; jump 13; push true"},
		{"!(t || q)", "get 2; unless 4; push true; jump 5; load 0 @m.q; un not"},
		{"p < 1 || k.g(p)", "get 0; push 1; bin <; unless 6; push true; jump 8; get 0; call 0 @k.g"},
	})
}

func TestAndWithOr(t *testing.T) {
	eachExpr(t, []exprCase{
		{"t && q || T", "get 2; unless 4; load 0 @m.q; jump 5; push false; unless 8; push true; jump 9; push true"},
		{"t || q && T", "get 2; unless 4; push true; jump 9; load 0 @m.q; unless 8; push true; jump 9; push false"},
		{"(t || q) && T", "get 2; unless 4; push true; jump 5; load 0 @m.q; unless 8; push true; jump 9; push false"},
		{"t && (q || T)", "get 2; unless 8; load 0 @m.q; unless 6; push true; jump 7; push true; jump 9; push false"},
		// On a stack that has something, and as arguments.
		{"k.two(r, t && q)", "get 1; get 2; unless 5; load 0 @m.q; jump 6; push false; call 0 @k.two"},
		{"(t || q) == (q && t)", "get 2; unless 4; push true; jump 5; load 0 @m.q; load 0 @m.q; unless 9; get 2; jump 10; push false; bin =="},
	})
}
