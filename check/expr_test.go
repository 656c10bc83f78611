package check_test

import (
	"strings"
	"testing"

	"foundry/api"
	"foundry/check"
	"foundry/types"
)

// exprCase: an expression, and its type or its error.
type exprCase struct {
	text string
	typ  int
	code api.Errno
}

// eachExpr holds the cases against what a function's body tells of them.
func eachExpr(t *testing.T, cases []exprCase) {
	t.Helper()
	for _, c := range cases {
		code := c.code
		if code == api.OK && c.typ == api.TNone {
			code = api.ErrType // no value can be let be nothing
		}
		let := bodyCase{"let x = " + c.text + ";", code, nil}
		if code == api.OK {
			let.slots = []int{c.typ}
		}
		eachBody(t, "", []bodyCase{let, {"show " + c.text + ";", code, nil}})
	}
}

// eachOuterExpr: also by Type, since no local name stands in them.
func eachOuterExpr(t *testing.T, cases []exprCase) {
	t.Helper()
	eachExpr(t, cases)
	m := inF(t, "", "")
	for _, c := range cases {
		is(t, "Type of "+c.text, typed(m, kAndJ(), expr(t, c.text)), typedText(c.typ, c.code))
	}
}

func TestLiterals(t *testing.T) {
	eachOuterExpr(t, []exprCase{
		{"0", api.TInt, api.OK},
		{"9223372036854775807", api.TInt, api.OK},
		{"0.0", api.TFloat, api.OK},
		{"inf", api.TFloat, api.OK},
		{"nan", api.TFloat, api.OK},
		{"true", api.TBool, api.OK},
		{"false", api.TBool, api.OK},
		{"input", api.TInt, api.OK},
	})
}

func TestNames(t *testing.T) {
	eachOuterExpr(t, []exprCase{
		{"C", api.TInt, api.OK},
		{"D", api.TFloat, api.OK},
		{"T", api.TBool, api.OK},
		{"v", api.TInt, api.OK},
		{"w", api.TFloat, api.OK},
		{"q", api.TBool, api.OK},
		{"f", 0, api.ErrType},
		{"none", 0, api.ErrType},
		{"num", 0, api.ErrType},
		{"k", 0, api.ErrType},
		{"j", 0, api.ErrType},
		{"m", 0, api.ErrUnknown},
		{"nobody", 0, api.ErrUnknown},
		{"Y", 0, api.ErrUnknown},
		{"g", 0, api.ErrUnknown},
		{"V", 0, api.ErrUnknown},
	})
	eachExpr(t, []exprCase{
		{"p", api.TInt, api.OK},
		{"r", api.TFloat, api.OK},
		{"t", api.TBool, api.OK},
		{"x", 0, api.ErrUnknown}, // the name that the let itself gives
	})
	// A constant or a variable that stands further down, too.
	is(t, "further down", codeOf(module(t, "fn f(): int { return A + v; } const A: int = 1; var v: int = 2;")), api.OK)
}

func TestFarNames(t *testing.T) {
	eachOuterExpr(t, []exprCase{
		{"k.Y", api.TInt, api.OK},
		{"k.F", api.TFloat, api.OK},
		{"k.B", api.TBool, api.OK},
		{"j.Y", api.TFloat, api.OK},
		{"j.Only", api.TInt, api.OK},
		{"k.Only", 0, api.ErrUnknown},
		{"k.g", 0, api.ErrType},
		{"k.h", 0, api.ErrType},
		{"k.nobody", 0, api.ErrUnknown},
		{"nobody.Y", 0, api.ErrUnknown},
		{"m.C", 0, api.ErrUnknown},
		{"z.Z", 0, api.ErrUnknown},
		{"k.C", 0, api.ErrUnknown},
		{"C.Y", 0, api.ErrUnknown},
		{"f.Y", 0, api.ErrUnknown},
	})
	eachExpr(t, []exprCase{{"p.Y", 0, api.ErrUnknown}})
	// What is given, but not imported, is not there.
	m := module(t, "import k; fn f() { show j.Y; }")
	is(t, "not imported", checked(m, kAndJ()...), wrong(0, api.ErrUnknown))
	m = module(t, "import k; fn f() { j.g(); }")
	is(t, "not imported, called", checked(m, kAndJ()...), wrong(0, api.ErrUnknown))
}

func TestCalls(t *testing.T) {
	eachOuterExpr(t, []exprCase{
		{"num()", api.TInt, api.OK},
		{"real()", api.TFloat, api.OK},
		{"none()", api.TNone, api.OK},
		{"one(1)", api.TNone, api.OK},
		{"two(1, 1.5)", api.TBool, api.OK},
		{"two(C + v, D)", api.TBool, api.OK},
		{"two(num(), real())", api.TBool, api.OK},
		{"f(1, 1.5, true)", api.TNone, api.OK},
		// Who is called.
		{"C()", 0, api.ErrType},
		{"v()", 0, api.ErrType},
		{"k()", 0, api.ErrType},
		{"m()", 0, api.ErrUnknown},
		{"g(1)", 0, api.ErrUnknown},
		{"nobody()", 0, api.ErrUnknown},
		{"C(nobody)", 0, api.ErrType},
		{"nobody(1 + 1.5)", 0, api.ErrUnknown},
		{"nobody(none())", 0, api.ErrUnknown},
		// With how many arguments.
		{"num(1)", 0, api.ErrCount},
		{"one()", 0, api.ErrCount},
		{"one(1, 2)", 0, api.ErrCount},
		{"two(1)", 0, api.ErrCount},
		{"two(1, 1.5, 1)", 0, api.ErrCount},
		{"f(1, 1.5, true, 1, 1, 1, 1, 1)", 0, api.ErrCount},
		{"two(nobody)", 0, api.ErrCount},
		{"one(1.5, nobody)", 0, api.ErrCount},
		{"num(1 + 1.5)", 0, api.ErrCount},
		{"one(C(), 1)", 0, api.ErrCount},
		// And with which.
		{"one(1.5)", 0, api.ErrType},
		{"one(true)", 0, api.ErrType},
		{"one(none())", 0, api.ErrType},
		{"one(nobody)", 0, api.ErrUnknown},
		{"one(num(1))", 0, api.ErrCount},
		{"two(1.5, nobody)", 0, api.ErrType},
		{"two(nobody, 1)", 0, api.ErrUnknown},
		{"two(1, nobody)", 0, api.ErrUnknown},
		{"two(1, num(1))", 0, api.ErrCount},
		{"two(none(), num(1))", 0, api.ErrType},
		{"two(num(1), none())", 0, api.ErrCount},
		{"f(1, 2, nobody)", 0, api.ErrType},
		{"f(1, 1.5, 1)", 0, api.ErrType},
	})
	eachExpr(t, []exprCase{
		{"p()", 0, api.ErrType},
		{"p(nobody)", 0, api.ErrType},
		{"x()", 0, api.ErrUnknown},
		{"two(p, r)", api.TBool, api.OK},
		{"two(r, p)", 0, api.ErrType},
		{"f(p, r, t)", api.TNone, api.OK},
	})
	is(t, "further down", codeOf(module(t, "fn f(): int { return g(1); } fn g(a: int): int { return f(); }")), api.OK)
}

func TestFarCalls(t *testing.T) {
	eachOuterExpr(t, []exprCase{
		{"k.n()", api.TInt, api.OK},
		{"k.g(1)", api.TBool, api.OK},
		{"k.h()", api.TNone, api.OK},
		{"k.r(1.5)", api.TFloat, api.OK},
		{"k.four(1, 1.5, true, 2)", api.TInt, api.OK},
		{"j.g()", api.TInt, api.OK},
		// Who is called.
		{"k.Y()", 0, api.ErrType},
		{"k.Y(nobody)", 0, api.ErrType},
		{"k.nobody()", 0, api.ErrUnknown},
		{"k.nobody(1 + 1.5)", 0, api.ErrUnknown},
		{"nobody.g(1)", 0, api.ErrUnknown},
		{"m.num()", 0, api.ErrUnknown},
		{"k.num()", 0, api.ErrUnknown},
		{"num.g()", 0, api.ErrUnknown},
		// With how many arguments.
		{"k.g()", 0, api.ErrCount},
		{"j.g(1)", 0, api.ErrCount},
		{"k.g(1, 2)", 0, api.ErrCount},
		{"k.h(nobody)", 0, api.ErrCount},
		{"k.four(nobody, 1, 2)", 0, api.ErrCount},
		{"k.four(1, 2.5, true, 4, 5)", 0, api.ErrCount},
		// And with which.
		{"k.g(1.5)", 0, api.ErrType},
		{"k.g(k.h())", 0, api.ErrType},
		{"k.g(nobody)", 0, api.ErrUnknown},
		{"k.g(k.g())", 0, api.ErrCount},
		{"k.four(1, 1, nobody, 1)", 0, api.ErrType},
		{"k.four(1, 1.5, nobody, 1.5)", 0, api.ErrUnknown},
		{"k.four(1, 1.5, true, 1.5)", 0, api.ErrType},
	})
	eachExpr(t, []exprCase{{"p.g(1)", 0, api.ErrUnknown}, {"k.r(r)", api.TFloat, api.OK}, {"k.r(p)", 0, api.ErrType}})
}

// Each operator with all types, of which none is one.
func TestOperators(t *testing.T) {
	of := []struct {
		text string
		typ  int
	}{{"none()", api.TNone}, {"v", api.TInt}, {"w", api.TFloat}, {"q", api.TBool}}
	var cases []exprCase
	for op, text := range []string{api.UNeg: "-", api.UNot: "!", api.UInt: "int(", api.UFloat: "float("} {
		for _, a := range of {
			if op == 0 {
				continue
			}
			typ, code := modelUnary(op, a.typ)
			cases = append(cases, exprCase{text + a.text + strings.Repeat(")", strings.Count(text, "(")), typ, code})
		}
	}
	for op, text := range []string{api.BAdd: "+", api.BSub: "-", api.BMul: "*", api.BDiv: "/", api.BRem: "%", api.BEq: "==", api.BNe: "!=", api.BLt: "<", api.BLe: "<=", api.BGt: ">", api.BGe: ">=", api.BAnd: "&&", api.BOr: "||"} {
		for _, a := range of {
			for _, b := range of {
				if op == 0 {
					continue
				}
				typ, code := modelBinary(op, a.typ, b.typ)
				cases = append(cases, exprCase{a.text + " " + text + " " + b.text, typ, code})
			}
		}
	}
	is(t, "cases", len(cases), 4*4+13*16)
	eachOuterExpr(t, cases)
}

// The first error from the left, a part's ahead of its whole's.
func TestTheFirstErrorFromTheLeft(t *testing.T) {
	eachOuterExpr(t, []exprCase{
		{"-nobody", 0, api.ErrUnknown},
		{"!num(1)", 0, api.ErrCount},
		{"int(int(1))", 0, api.ErrType},
		{"float(nobody)", 0, api.ErrUnknown},
		{"nobody + num(1)", 0, api.ErrUnknown},
		{"num(1) + nobody", 0, api.ErrCount},
		{"1.5 + nobody", 0, api.ErrUnknown},
		{"true + num(1)", 0, api.ErrCount},
		{"none() + nobody", 0, api.ErrUnknown},
		{"none() + num(1)", 0, api.ErrCount},
		{"(1 + 1.5) + nobody", 0, api.ErrType},
		{"nobody + (1 + 1.5)", 0, api.ErrUnknown},
		{"(1 + nobody) + num(1)", 0, api.ErrUnknown},
		{"(nobody == 1) && num(1)", 0, api.ErrUnknown},
		{"false && nobody", 0, api.ErrUnknown},
		{"true || num(1)", 0, api.ErrCount},
		{"true || 1", 0, api.ErrType},
		{"1 || nobody", 0, api.ErrUnknown},
		{"k.nobody + num(1)", 0, api.ErrUnknown},
		{"k.g + nobody", 0, api.ErrType},
		{"one(num(1) + nobody)", 0, api.ErrCount},
		{"two(k.g, nobody)", 0, api.ErrType},
		{"-(1 + -(2 * (3 - nobody)))", 0, api.ErrUnknown},
	})
}

// Traps are no errors of types.
func TestTrapsAreNoErrors(t *testing.T) {
	eachOuterExpr(t, []exprCase{
		{"1 / 0", api.TInt, api.OK},
		{"9223372036854775807 + 1", api.TInt, api.OK},
		{"int(nan)", api.TInt, api.OK},
		{"C % 0 == 1", api.TBool, api.OK},
	})
}

// What stands to the left is not nested, so that it goes down far.
func TestLongChains(t *testing.T) {
	sum, bad := expr(t, "1"), expr(t, "nobody")
	for range 60000 {
		sum = api.Expr{Kind: api.EBin, Op: api.BAdd, Kids: []api.Expr{sum, expr(t, "v")}}
		bad = api.Expr{Kind: api.EBin, Op: api.BAdd, Kids: []api.Expr{bad, expr(t, "v")}}
	}
	m := inF(t, "", "show 1;")
	is(t, "a sum", typed(m, kAndJ(), sum), typedText(api.TInt, api.OK))
	is(t, "a sum of what is unknown", typed(m, kAndJ(), bad), typedText(0, api.ErrUnknown))
	m.Decls[outerCount].Body[0].E[0] = sum
	is(t, "a sum that is shown", codeOf(m, kAndJ()...), api.OK)
	m.Decls[outerCount].Body[0].E[0] = bad
	is(t, "another one", checked(m, kAndJ()...), wrong(outerCount, api.ErrUnknown))
}

// F12.2: Type.

func TestTypeOfAWrongModule(t *testing.T) {
	deep := api.Expr{Kind: api.EInput}
	for range api.MaxDepth + 1 {
		deep = api.Expr{Kind: api.EUn, Op: api.UNeg, Kids: []api.Expr{deep}}
	}
	for _, c := range []struct {
		text string
		code api.Errno
	}{
		{"import m;", api.ErrTwice},
		{"import nobody;", api.ErrImport},
		{"const A: int = 1 / 0;", api.ErrZero},
		{"fn f(f: int) { }", api.ErrTwice},
		{"fn f() { show x; }", api.ErrUnknown},
		{"fn f() { fail true; }", api.ErrType},
		{"fn f() { f(1); }", api.ErrCount},
		{"fn f(): int { }", api.ErrReturn},
	} {
		m := module(t, c.text)
		for _, e := range []api.Expr{expr(t, "1"), expr(t, "x"), deep, {}, {Kind: api.ELit, Value: api.Value{Type: 9}}} {
			is(t, c.text, typed(m, kAndJ(), e), typedText(0, c.code))
		}
	}
	is(t, "no module", typed(api.Module{}, nil, expr(t, "1")), typedText(0, api.ErrName))
}

func TestTypeOfAWrongExpression(t *testing.T) {
	deep := api.Expr{Kind: api.EInput}
	for range api.MaxDepth {
		deep = api.Expr{Kind: api.EUn, Op: api.UNeg, Kids: []api.Expr{deep}}
	}
	m := inF(t, "", "")
	is(t, "as deep as may be", typed(m, kAndJ(), deep), typedText(api.TInt, api.OK))
	call := func(n int) api.Expr { return api.Expr{Kind: api.ECall, Name: "nobody", Kids: times(n, deep.Kids[0])} }
	for _, c := range []struct {
		what string
		e    api.Expr
		code api.Errno
	}{
		{"none", api.Expr{}, api.ErrArg},
		{"no kind", api.Expr{Kind: 9}, api.ErrArg},
		{"too deep", api.Expr{Kind: api.EUn, Op: api.UNeg, Kids: []api.Expr{deep}}, api.ErrDeep},
		{"no operator, of what is deep", api.Expr{Kind: api.EUn, Op: 5, Kids: []api.Expr{deep}}, api.ErrArg},
		{"no operator of one", api.Expr{Kind: api.EUn, Op: 5, Kids: []api.Expr{expr(t, "1")}}, api.ErrArg},
		{"no operator of two", api.Expr{Kind: api.EBin, Op: 14, Kids: []api.Expr{expr(t, "1"), expr(t, "1")}}, api.ErrArg},
		{"none of Kids", api.Expr{Kind: api.EBin, Op: api.BAdd}, api.ErrArg},
		{"a literal below 0", api.Expr{Kind: api.ELit, Value: api.Value{Type: api.TInt, Bits: signBit}}, api.ErrArg},
		{"a literal of nothing", api.Expr{Kind: api.ELit}, api.ErrArg},
		{"no name", api.Expr{Kind: api.EName}, api.ErrName},
		{"a reserved word", api.Expr{Kind: api.EName, Name: "if"}, api.ErrName},
		{"a long name", api.Expr{Kind: api.EName, Name: strings.Repeat("n", 33)}, api.ErrBig},
		{"too many arguments", call(9), api.ErrBig},
		{"as many as may be", call(8), api.ErrUnknown},
		{"an unknown one ahead of it", api.Expr{Kind: api.EBin, Op: api.BAdd, Kids: []api.Expr{expr(t, "nobody"), {}}}, api.ErrArg},
	} {
		is(t, c.what, typed(m, kAndJ(), c.e), typedText(0, c.code))
	}
}

// Of local names none is there, those of the last function neither.
func TestTypeKnowsNoLocalNames(t *testing.T) {
	m := inF(t, "", "let x = 1; try { } catch y { }")
	for _, name := range []string{"p", "r", "t", "x", "y", "a", "b"} {
		is(t, name, typed(m, kAndJ(), expr(t, name)), typedText(0, api.ErrUnknown))
		is(t, name+" called", typed(m, kAndJ(), expr(t, name+"()")), typedText(0, api.ErrUnknown))
	}
	is(t, "a sum", typed(m, kAndJ(), expr(t, "v + p")), typedText(0, api.ErrUnknown))
}

func TestTypeOfACallWithoutAResult(t *testing.T) {
	m := inF(t, "", "")
	typ, code := check.Type(m, kAndJ(), expr(t, "k.h()"))
	is(t, "Type", typ, api.TNone)
	is(t, "its error", code, api.OK)
	_, code = types.Binary(api.BEq, api.TNone, api.TNone)
	is(t, "two of none", code, api.ErrType)
}
