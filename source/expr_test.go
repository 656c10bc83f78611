package source_test

import (
	"fmt"
	"strings"
	"testing"

	"foundry/api"
	"foundry/fold"
	"foundry/parse"
	"foundry/source"
)

// tellers: functions that show what they are given, so that it is seen when they are called.
const tellers = `
const C: int = 40; const D: float = 2.5; const T: bool = true;
var v: int = 30; var w: float = 1.5; var q: bool = false;
fn t(a: int): int { show a; return a; }
fn r(a: float): float { show a; return a; }
fn b(a: bool): bool { show a; return a; }
fn three(x: int, y: float, z: bool): int { show x; show y; show z; return x; }
fn none() { }
`

// P1303: literals and names.

func TestLiteralsAndNames(t *testing.T) {
	main := inMain(tellers)
	each(t,
		main("show 0; show 9223372036854775807; return 0;", "0 9223372036854775807 | halted 0 | 4"),
		main("show 1.5; show inf; show nan; show 0.0; return 0;", "0x1.8p+0 inf nan 0x0p+0 | halted 0 | 6"),
		main("show true; show false; return 0;", "true false | halted 0 | 4"),
		main("show C; show D; show T; return 0;", "40 0x1.4p+1 true | halted 0 | 5"),
		main("show v; show w; show q; return 0;", "30 0x1.8p+0 false | halted 0 | 5"),
		main("v = v + C; w = w + D; q = T; show v; show w; show q; return v;", "70 0x1p+2 true | halted 70 | 8"),
		main("let x = v; v = 1; show x; show v; x = 2; show x; show v; return x;", "30 1 2 1 | halted 2 | 9"),
		one("const A: int = 2; const B: int = A * A + 1; var x: int = B * A; fn main(): int { show A; show B; show x; return 0; }", "2 5 10 | halted 0 | 5"),
		one("fn main(): int { return f(1); } fn f(a: int): int { return a + A + x; } const A: int = 10; var x: int = 100;", " | halted 111 | 4"),
	)
}

// A constant and a variable of one module are not those of another, whatever their names are.
func TestNamesOfOtherModules(t *testing.T) {
	main := "import a; import b; const X: int = 1; var v: int = 10; fn f(): int { return X * 100; } fn main(): int { show X; show a.X; show b.X; show v; show a.get(); show b.get(); show f(); show a.f(); show b.f(); v = 11; a.set(21); show v; show a.get(); show b.get(); return a.both(3); }"
	a := "module a; import b; export const X: int = b.X + 1; var v: int = 20; export fn get(): int { return v; } export fn set(n: int) { v = n; b.set(n + 10); } export fn f(): int { return X * 50 - 100; } fn g(n: int): int { return n * 1000 + v; } export fn both(n: int): int { return g(n) + b.g(n); }"
	b := "module b; export const X: int = 5; var v: int = 30; export fn get(): int { return v; } export fn set(n: int) { v = n; } export fn f(): int { return X * 60; } export fn g(n: int): int { return n * 1000000 + v; }"
	want := "1 6 5 10 20 30 100 200 300 11 21 31 | halted 3003052 | 41"
	each(t, deed{texts: []string{main, a, b}, want: want})
}

// What has a value that is not the one of another with the same name in a block beside it.
func TestLocalNamesOfBlocksBesideOneAnother(t *testing.T) {
	main := inMain("var n: int = 0; fn f(x: int): int { if x > 2 { let y = x * 2; return y; } else { let y = 0.5; show y; } if x > 1 { let y = true; show y; } let y = 7; return y + x; }")
	each(t,
		main("return f(3);", " | halted 6 | 6"),
		main("return f(2);", "0x1p-1 true | halted 9 | 11"),
		main("return f(1);", "0x1p-1 | halted 8 | 9"),
		main("while n < 3 { let x = n * 10; n = n + 1; show x; x = 5; } let x = 1.5; show x; return n;", "0 10 20 0x1.8p+0 | halted 3 | 21"),
		main("try { let x = 1; show x; fail x; } catch e { let x = 2.5; show x; } try { let e = true; show e; } catch x { } let e = 4; return e;", "1 0x1.4p+1 true | halted 4 | 12"),
	)
}

// P1303: operators, from the left to the right, with a trap in each part.

func TestOperatorsFromTheLeft(t *testing.T) {
	main := inMain(tellers)
	each(t,
		main("show t(1) + t(2) * t(3); return 0;", "1 2 3 7 | halted 0 | 12"),
		main("show t(1) * t(2) + t(3); return 0;", "1 2 3 5 | halted 0 | 12"),
		main("show t(1) - (t(2) - t(3)); return 0;", "1 2 3 2 | halted 0 | 12"),
		main("show t(9) - t(2) - t(3); return 0;", "9 2 3 4 | halted 0 | 12"),
		main("show t(9) / t(2) % t(3); return 0;", "9 2 3 1 | halted 0 | 12"),
		main("show r(1.0) < r(2.0); return 0;", "0x1p+0 0x1p+1 true | halted 0 | 9"),
		main("show b(true) == b(false); return 0;", "true false false | halted 0 | 9"),
		main("show t(v) + C; return 0;", "30 70 | halted 0 | 6"),
		// A variable's value is taken where its name stands, not behind what follows.
		main("return v + t(1) + v;", "1 | halted 61 | 5"),
		one("var v: int = 1; fn more(): int { v = v * 10; return v; } fn main(): int { return v + more() + v + more() * 100 + v; }", " | halted 10121 | 8"),
		main("show t(1) + 1 / 0 + t(2); return 0;", "1 | trap zero | 5"),
		main("show 1 / 0 + t(2); return 0;", " | trap zero | 2"),
		main("show t(1) / 0 + t(2); return 0;", "1 | trap zero | 5"),
		main("show t(1) + t(2) / 0; return 0;", "1 2 | trap zero | 8"),
		main("show 1 / 0 + input; return 0;", " | trap zero | 2"),
		main("show input + 1 / 0; return 0;", " | trap input | 2"),
		main("show t(1) / (t(2) - t(2)); return 0;", "1 2 2 | trap zero | 11"),
		main("show t(9223372036854775807) + t(1); return 0;", "9223372036854775807 1 | trap over | 8"),
		main("show int(r(0x1p+63)) + t(1); return 0;", "0x1p+63 | trap conv | 5"),
	)
}

func TestOperatorsOfOne(t *testing.T) {
	main := inMain(tellers)
	each(t,
		main("show -t(1); return 0;", "1 -1 | halted 0 | 6"),
		main("show - -t(1); return 0;", "1 1 | halted 0 | 6"),
		main("show !b(true); return 0;", "true false | halted 0 | 6"),
		main("show int(r(2.5)); return 0;", "0x1.4p+1 2 | halted 0 | 6"),
		main("show float(t(3)); return 0;", "3 0x1.8p+1 | halted 0 | 6"),
		main("show -w; show -0.0; return 0;", "-0x1.8p+0 -0x0p+0 | halted 0 | 4"),
		main("show -(1 / 0); return 0;", " | trap zero | 2"),
		main("show !(1 / 0 == 0); return 0;", " | trap zero | 2"),
		main("show int(float(1 / 0)); return 0;", " | trap zero | 2"),
		main("show float(input); return 0;", " | trap input | 2"),
		main("show -(t(-9223372036854775807) - 1); return 0;", "-9223372036854775807 | trap over | 5"),
		main("show int(nan); return 0;", " | trap conv | 2"),
		main("show int(inf); return 0;", " | trap conv | 2"),
	)
}

// operands: texts of constant expressions of each type, with the edges of it.
func operands(typ int) []string {
	switch typ {
	case api.TInt:
		return []string{"0", "1", "-1", "2", "-7", "3037000500", "9223372036854775807", "-9223372036854775807 - 1"}
	case api.TFloat:
		return []string{"0.0", "-0.0", "1.5", "-2.5", "inf", "-inf", "nan", "0x1p+63", "0x1p-1074"}
	}
	return []string{"true", "false"}
}

// holds fails unless a run that shows the expression does what fold tells of it.
func holds(t *testing.T, p *source.Program, what string, v api.Value, trap int) {
	t.Helper()
	want := fmt.Sprint(shown([]api.Value{v}), " | halted 0 | 3")
	if trap != 0 {
		want = fmt.Sprint(" | trap ", trapName(trap), " | 2")
	}
	is(t, what, told(p.Run(nil, 9)), want)
}

// Each operator on variables of each type does what fold's Un and Bin do.
func TestOperatorsAreFolds(t *testing.T) {
	typeNames := []string{"", "int", "float", "bool"}
	counted := 0
	for typ := api.TInt; typ <= api.TBool; typ++ {
		for _, left := range operands(typ) {
			a := constant(t, left)
			for op, mark := range []string{api.UNeg: "-", api.UNot: "!", api.UInt: "int", api.UFloat: "float"} {
				v, trap := fold.Un(op, a)
				if trap == -1 {
					continue
				}
				counted++
				text := fmt.Sprintf("var a: %s = %s; fn main(): int { show %s(a); return 0; }", typeNames[typ], left, mark)
				holds(t, program(t, text), text, v, trap)
			}
			for _, right := range operands(typ) {
				b := constant(t, right)
				for op, mark := range strings.Fields("none + - * / % == != < <= > >= && ||") {
					v, trap := fold.Bin(op, a, b)
					if trap == -1 {
						continue
					}
					counted++
					text := fmt.Sprintf("var a: %s = %s; var b: %s = %s; fn main(): int { show a %s b; return 0; }", typeNames[typ], left, typeNames[typ], right, mark)
					holds(t, program(t, text), text, v, trap)
				}
			}
		}
	}
	is(t, "how many", counted, (8*2+9*2+2)+(8*8*11+9*9*10+2*2*4))
}

func constant(t *testing.T, text string) api.Value {
	t.Helper()
	e, _, _ := parse.Expr(text)
	v, code := fold.Eval(e, nil)
	is(t, text, code, api.OK)
	return v
}

// P1303: the right side of && and || is asked only where the left one does not decide.

func TestAndAndOr(t *testing.T) {
	main := inMain(tellers)
	each(t,
		main("show b(true) && b(true); return 0;", "true true true | halted 0 | 9"),
		main("show b(true) && b(false); return 0;", "true false false | halted 0 | 9"),
		main("show b(false) && b(true); return 0;", "false false | halted 0 | 6"),
		main("show b(false) && b(false); return 0;", "false false | halted 0 | 6"),
		main("show b(true) || b(true); return 0;", "true true | halted 0 | 6"),
		main("show b(true) || b(false); return 0;", "true true | halted 0 | 6"),
		main("show b(false) || b(true); return 0;", "false true true | halted 0 | 9"),
		main("show b(false) || b(false); return 0;", "false false false | halted 0 | 9"),
		main("show false && 1 / 0 == 0; return 0;", "false | halted 0 | 3"),
		main("show true || input == 0; return 0;", "true | halted 0 | 3"),
		main("show true && 1 / 0 == 0; return 0;", " | trap zero | 2"),
		main("show false || input == 0; return 0;", " | trap input | 2"),
		main("show 1 / 0 == 0 && false; return 0;", " | trap zero | 2"),
		main("show input == 0 || true; return 0;", " | trap input | 2"),
		main("show b(false) && b(true) || b(true); return 0;", "false true true | halted 0 | 9"),
		main("show b(true) || b(true) && b(false); return 0;", "true true | halted 0 | 6"),
		main("show b(false) || b(true) && b(false) || b(true); return 0;", "false true false true true | halted 0 | 15"),
		main("show b(false) && b(true) && b(true); return 0;", "false false | halted 0 | 6"),
		main("show b(false) && (b(true) || b(true)) == b(false); return 0;", "false false | halted 0 | 6"),
		main("show (b(false) && b(true)) == b(false); return 0;", "false false true | halted 0 | 9"),
		main("show !(b(true) || b(true)) || b(false); return 0;", "true false false | halted 0 | 9"),
	)
}

// P1303: input.

func TestInput(t *testing.T) {
	taking := func(input []int64, body, want string) deed {
		d := inMain(tellers)(body, want)
		d.input = input
		return d
	}
	each(t,
		taking([]int64{5}, "return input;", " | halted 5 | 2"),
		taking([]int64{5, 6}, "show input; return input;", "5 | halted 6 | 3"),
		taking([]int64{5, 6}, "return input * 10 + input;", " | halted 56 | 2"),
		taking([]int64{5, 6}, "return input - input;", " | halted -1 | 2"),
		taking([]int64{5, 6, 7}, "return three(input, float(input), input == 7);", "5 0x1.8p+2 true | halted 5 | 7"),
		taking([]int64{-1 << 63, 1<<63 - 1}, "show input; return input;", "-9223372036854775808 | halted 9223372036854775807 | 3"),
		taking([]int64{5}, "show input; return input;", "5 | trap input | 3"),
		taking([]int64{}, "return input;", " | trap input | 2"),
		taking([]int64{5}, "return input + input;", " | trap input | 2"),
		taking([]int64{5, 6}, "if false && input == 0 { } return input;", " | halted 5 | 3"),
		taking([]int64{1, 2, 0, 9}, "let s = 0; while input > 0 { s = s + 1; } show s; return input;", "2 | halted 9 | 10"),
		// It is taken for good, though a trap follows, and what traps takes none.
		taking([]int64{5, 6}, "try { show input / 0; } catch e { } return input;", " | halted 6 | 4"),
		taking([]int64{5}, "show input; try { show input; } catch e { show e; } try { show input; } catch e { show e; } return 0;", "5 -4 -4 | halted 0 | 9"),
		deed{texts: []string{"module k; export fn f(a: int): int { show a; return a + input; }", "import k; fn main(): int { return k.f(input) * input; }"}, input: []int64{4, 3, 2}, want: "4 | halted 14 | 5"},
	)
}

// P1303: calls.

func TestCalls(t *testing.T) {
	main := inMain(tellers)
	each(t,
		main("return three(t(1), r(2.0), b(true));", "1 0x1p+1 true 1 0x1p+1 true | halted 1 | 16"),
		main("return three(t(1), r(2.0), 1 / 0 == t(3));", "1 0x1p+1 | trap zero | 8"),
		main("return three(t(1), float(1 / 0), b(true));", "1 | trap zero | 5"),
		main("return three(1 / 0, r(2.0), b(true));", " | trap zero | 2"),
		main("none(); return 0;", " | halted 0 | 4"),
		main("return t(t(t(1) + 1) + 1);", "1 2 3 | halted 3 | 11"),
		// What a function gives its parameters and its own variables, nobody else sees.
		one("fn f(a: int): int { let x = a * 10; a = a - 1; if a > 0 { show f(a); } show x; return a; } fn main(): int { let a = 3; let x = 5; show f(a); show a; return x; }", "10 0 20 1 30 2 3 | halted 5 | 26"),
		one("fn fib(n: int): int { if n < 2 { return n; } return fib(n - 1) + fib(n - 2); } fn main(): int { show fib(1); show fib(2); return fib(10); }", "1 1 | halted 55 | 547"),
		one("fn even(n: int): bool { if n == 0 { return true; } return odd(n - 1); } fn odd(n: int): bool { if n == 0 { return false; } return even(n - 1); } fn main(): int { show even(10); show odd(10); return 0; }", "true false | halted 0 | 70"),
	)
}

// A function of another module, its variables, and what it calls in turn.
func TestFarCalls(t *testing.T) {
	k := "module k; import j; var v: int = 7; export fn get(): int { return v; } export fn add(a: int, b: float, c: bool): int { if c { v = v + a; } show b; j.tick(); return v; } fn own(): int { return 1; } export fn through(): int { return own() + get() + j.tick(); }"
	j := "module j; var v: int = 100; export fn tick(): int { v = v + 1; return v; }"
	far := func(body, want string) deed {
		return deed{texts: []string{"import k; import j; var v: int = 1; fn own(): int { return 1000; } fn main(): int { " + body + " }", k, j}, want: want}
	}
	each(t,
		far("show v; show k.get(); return j.tick();", "1 7 | halted 101 | 9"),
		far("show k.add(5, 0.5, true); show v; show k.get(); return j.tick();", "0x1p-1 12 1 12 | halted 102 | 19"),
		far("v = 2; k.add(5, 1.5, false); show k.through(); return own() + v;", "0x1.8p+0 110 | halted 1002 | 24"),
		far("show k.add(1 / 0, 0.5, true); return 0;", " | trap zero | 2"),
		far("show k.add(1, float(input), true); return 0;", " | trap input | 2"),
	)
}

// P1303: how many calls may be within one another.

func TestDeepCalls(t *testing.T) {
	main := inMain("fn f(n: int): int { if n > 1 { return f(n - 1) + 1; } return 1; } fn none(n: int) { if n > 1 { none(n - 1); } }")
	each(t,
		// Main's call is one of them.
		main(fmt.Sprintf("return f(%d);", api.MaxCalls-1), fmt.Sprint(" | halted 63 | ", 2+63*3)),
		main(fmt.Sprintf("return f(%d);", api.MaxCalls), " | trap deep | 191"),
		main(fmt.Sprintf("none(%d); return 5;", api.MaxCalls-1), fmt.Sprint(" | halted 5 | ", 3+63*2+62)),
		main(fmt.Sprintf("none(%d); return 5;", api.MaxCalls), " | trap deep | 191"),
		// Those that are over do not count.
		main("let n = 0; while n < 200 { f(2); n = n + 1; } return n;", fmt.Sprint(" | halted 200 | ", 4+200*9+1)),
		main("return f(60) + f(62) + f(63);", fmt.Sprint(" | halted 185 | ", 2+3*(60+62+63))),
	)
}

// Arguments come ahead of TrapDeep, and that ahead of the step.
func TestWhatComesAheadOfTrapDeep(t *testing.T) {
	deepest := func(arg string) string {
		// At n = 1 main's call and 63 of f are at work.
		return "var s: int = 0; fn f(n: int): int { if n > 1 { return f(n - 1); } return f(" + arg + "); } fn main(): int { return f(63); }"
	}
	each(t,
		one(deepest("1"), " | trap deep | 191"),
		one(deepest("1 / 0"), " | trap zero | 191"),
		one(deepest("input"), " | trap input | 191"),
		one(deepest("9223372036854775807 + n"), " | trap over | 191"),
		one(deepest("int(nan)"), " | trap conv | 191"),
		deed{texts: []string{deepest("input")}, input: []int64{5}, want: " | trap deep | 191"},
		// The argument's own call is the one that is too deep, ahead of all behind it.
		one("fn g(n: int, m: int): int { return n; } fn f(n: int): int { if n > 1 { return f(n - 1); } return g(f(1), 1 / 0); } fn main(): int { return f(63); }", " | trap deep | 191"),
		one("fn g(n: int, m: int): int { return n; } fn f(n: int): int { if n > 1 { return f(n - 1); } return g(1 / 0, f(1)); } fn main(): int { return f(63); }", " | trap zero | 191"),
	)
	p := program(t, deepest("1"))
	is(t, "no step left for the call", told(p.Run(nil, 191)), " | trap deep | 191")
	is(t, "no step left for its statement", told(p.Run(nil, 190)), " | running | 190")
	far := program(t, "import k; fn main(): int { return k.f(63); }", "module k; import j; export fn f(n: int): int { if n > 1 { return f(n - 1); } return j.f(); }", "module j; export fn f(): int { return 9; }")
	is(t, "of another module", told(far.Run(nil, 191)), " | trap deep | 191")
}

// leftChain: the expression with n times "+ 1" behind it; only the left side is nested, which no limit bounds.
func leftChain(e api.Expr, n int) api.Expr {
	for range n {
		literal := api.Expr{Kind: api.ELit, Value: api.Value{Type: api.TInt, Bits: 1}}
		e = api.Expr{Kind: api.EBin, Op: api.BAdd, Kids: []api.Expr{e, literal}}
	}
	return e
}

// The deepest calls, each at the lower end of an expression that goes down as far as one may.
func TestDeepCallsInDeepExpressions(t *testing.T) {
	const n = 1 << 16
	l := modules(t, "fn f(n: int): int { if n > 1 { return f(n - 1); } return 0; } fn main(): int { return f(63); }")
	e := &l[0].Decls[0].Body[0].Body[0].E[0]
	*e = leftChain(*e, n-100)
	p, code := source.New(l)
	is(t, "New", code, api.OK)
	is(t, "Run", told(p.Run(nil, 1000)), fmt.Sprintf(" | halted %d | 191", 62*(n-100)))
	is(t, "Run with too few steps", told(p.Run(nil, 190)), " | running | 190")
}
