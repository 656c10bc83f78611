package source_test

import (
	"fmt"
	"strings"
	"testing"

	"foundry/api"
	"foundry/floats"
)

// P1304: statements, but try.

func TestLetAndSet(t *testing.T) {
	main := inMain("var v: int = 1; fn bump(): int { v = v + 1; return v; } fn f(p: int): int { p = p + 1; return p; }")
	each(t,
		main("let a = 5; let b = a + 1; let c = b * 1; show a; show b; return c;", "5 6 | halted 6 | 7"),
		main("let a = 5; a = a * 2; a = a + 1; return a;", " | halted 11 | 5"),
		main("let a = 1.5; let b = true; a = a * 2.0; b = !b; show a; show b; return 0;", "0x1.8p+1 false | halted 0 | 8"),
		main("v = v * 10; v = v + 1; return v;", " | halted 11 | 4"),
		main("let p = 7; show f(p); return p;", "8 | halted 7 | 7"),
		// The value first, then the variable has it.
		main("v = v * 10 + bump(); return v;", " | halted 12 | 6"),
		main("v = bump() * 10 + v; return v;", " | halted 22 | 6"),
		main("let a = 3; a = a - a * a; return a;", " | halted -6 | 4"),
		main("let a = 3; try { a = 1 / 0; } catch e { } show a; try { v = a + input; } catch e { } return v;", "3 | halted 1 | 8"),
		main("let a = 1 / 0; return a;", " | trap zero | 2"),
		main("v = bump() / 0; return v;", " | trap zero | 5"),
	)
}

func TestIf(t *testing.T) {
	main := inMain("var v: int = 0; fn b(a: bool): bool { show a; return a; }")
	each(t,
		main("if b(true) { show 1; } else { show 2; } return 0;", "true 1 | halted 0 | 7"),
		main("if b(false) { show 1; } else { show 2; } return 0;", "false 2 | halted 0 | 7"),
		main("if b(true) { show 1; } return 0;", "true 1 | halted 0 | 7"),
		main("if b(false) { show 1; } return 0;", "false | halted 0 | 6"),
		main("if b(true) { } else { show 2; } return 0;", "true | halted 0 | 6"),
		main("if b(true) { return 1; } else { return 2; }", "true | halted 1 | 6"),
		main("if b(false) { return 1; } else { return 2; }", "false | halted 2 | 6"),
		main("if b(false) { return 1; } return 3;", "false | halted 3 | 6"),
		main("if b(false) { show 1; } else { return 2; } return 3;", "false | halted 2 | 6"),
		main("if b(true) { return 1; } else { show 2; } return 3;", "true | halted 1 | 6"),
		main("if 1 / 0 == 0 { show 1; } else { show 2; } return 0;", " | trap zero | 2"),
		// The condition is asked once; what the block changes does not turn it.
		main("if v == 0 { v = 1; show v; } else { show 2; } return v;", "1 | halted 1 | 5"),
		main("if true { if false { show 1; } else { show 2; if true { show 3; } } } else { show 4; } return 0;", "2 3 | halted 0 | 7"),
	)
}

func TestWhile(t *testing.T) {
	main := inMain("var v: int = 0; fn below(n: int): bool { show v; return v < n; }")
	each(t,
		main("while below(2) { v = v + 1; } return v;", "0 1 2 | halted 2 | 17"),
		main("while below(0) { v = v + 1; } return v;", "0 | halted 0 | 7"),
		main("while v < 3 { v = v + 1; if v == 2 { return 20; } show v; } return v;", "1 | halted 20 | 10"),
		main("while true { v = v + 1; while true { if v > 2 { return v; } v = v * 3; } } return 0;", " | halted 3 | 11"),
		main("while v < 2 { let w = 0; while w < 2 { show v * 10 + w; w = w + 1; } v = v + 1; } return v;", "0 1 10 11 | halted 2 | 26"),
		main("while 1 / v == 0 { show v; } return v;", " | trap zero | 3"),
		main("v = 2; while 6 / v > 1 { v = v - 1; show v; } return v;", "1 0 | trap zero | 10"),
		main("while v < 3 { v = v + 1; fail v; } return v;", " | fail 1 | 5"),
	)
}

func TestReturn(t *testing.T) {
	main := inMain("var v: int = 0; fn none(a: int) { if a > 0 { return; } v = v + 1; return; } fn off() { v = v + 10; } fn real(): float { return 1.5; } fn truth(): bool { return 1 < 2; }")
	each(t,
		main("none(0); none(1); off(); return v;", " | halted 11 | 14"),
		main("show real(); show truth(); return v;", "0x1.8p+0 true | halted 0 | 8"),
		main("return 1; show 1; return 2;", " | halted 1 | 2"),
		main("if true { if true { return 1; } show 2; } show 3; return 4;", " | halted 1 | 4"),
		main("return v / 0;", " | trap zero | 2"),
	)
}

func TestShow(t *testing.T) {
	main := inMain("fn f(): int { show 1; return 2; }")
	each(t,
		main("show 1; show 1.5; show true; show -1; return 0;", "1 0x1.8p+0 true -1 | halted 0 | 6"),
		main("show f(); return 0;", "1 2 | halted 0 | 6"),
		main("show 1; show 1 / 0; return 0;", "1 | trap zero | 3"),
		main("show f() / 0; return 0;", "1 | trap zero | 5"),
		main("show 1; show 1; show 1; return 1;", "1 1 1 | halted 1 | 5"),
	)
	// Not their texts alone: the values with their types.
	trace, _, _ := program(t, "fn main(): int { show 1; show 1.0; show true; show nan; return 0; }").Run(nil, 9)
	want := []api.Value{{Type: api.TInt, Bits: 1}, {Type: api.TFloat, Bits: 0x3ff0000000000000}, {Type: api.TBool, Bits: 1}, {Type: api.TFloat, Bits: floats.NaN}}
	is(t, "values", fmt.Sprint(trace), fmt.Sprint(want))
}

func TestFail(t *testing.T) {
	main := inMain("fn f(): int { show 1; return 2; } fn g() { fail 7; }")
	each(t,
		main("fail f();", "1 | fail 2 | 5"),
		main("fail 1 / 0;", " | trap zero | 2"),
		main("fail input;", " | trap input | 2"),
		main("g(); return 0;", " | fail 7 | 4"),
		main("show 3; fail 4; show 5; return 6;", "3 | fail 4 | 3"),
		deed{texts: []string{"fn main(): int { fail input; }"}, input: []int64{-9}, want: " | fail -9 | 2"},
	)
}

func TestDo(t *testing.T) {
	main := inMain("var v: int = 0; fn num(a: int): int { v = v + a; return v; } fn none() { v = v * 10; } fn real(): float { show v; return 0.5; }")
	each(t,
		main("num(1); none(); num(2); return v;", " | halted 12 | 13"),
		main("real(); real(); return v;", "0 0 | halted 0 | 10"),
		main("num(1 / 0); return v;", " | trap zero | 2"),
		deed{texts: []string{"import k; fn main(): int { k.f(2); k.g(); return k.get(); }", "module k; var v: int = 1; export fn f(a: int): int { v = v + a; return v; } export fn g() { v = v * 10; } export fn get(): int { return v; }"}, want: " | halted 30 | 11"},
	)
}

// P1304: TrapTrace.

// showing: a body that shows so many numbers, with what stands around the loop.
func showing(n int, ahead, behind string) string {
	return fmt.Sprintf("let n = 0; %s while n < %d { show n; n = n + 1; } %s", ahead, n, behind)
}

// numbers: how the first n of the trace read.
func numbers(n int) string {
	var l []string
	for i := range n {
		l = append(l, fmt.Sprint(i))
	}
	return strings.Join(l, " ")
}

func TestMaxTrace(t *testing.T) {
	const most = api.MaxTrace
	full := numbers(most)
	main := inMain("")
	// The call, let, while; of each number a condition and two statements.
	steps := 3 + 3*most
	each(t,
		main(showing(most, "", "return 5;"), fmt.Sprintf("%s | halted 5 | %d", full, steps+2)),
		main(showing(most+1, "", "return 5;"), fmt.Sprintf("%s | trap trace | %d", full, steps+2)),
		main(showing(most, "", "show 1; return 5;"), fmt.Sprintf("%s | trap trace | %d", full, steps+2)),
		main(showing(most-1, "", "show true; return 5;"), fmt.Sprintf("%s true | halted 5 | %d", numbers(most-1), steps)),
		// No try catches it: not the one next to it, none around that one, nor in its calls, nor in its second block.
		main(showing(most+1, "try { ", "} catch e { return 6; } return 5;"), fmt.Sprintf("%s | trap trace | %d", full, steps+3)),
		main(showing(most+1, "try { try { try { ", "} catch e { return 6; } } catch e { return 7; } } catch e { return 8; } return 5;"), fmt.Sprintf("%s | trap trace | %d", full, steps+5)),
		main(showing(most, "", "try { show 1; } catch e { return 6; } return 5;"), fmt.Sprintf("%s | trap trace | %d", full, steps+3)),
		main(showing(most, "", "try { try { fail 1; } catch e { show e; } } catch e { return 6; } return 5;"), fmt.Sprintf("%s | trap trace | %d", full, steps+5)),
		inMain("fn f() { try { g(); } catch e { } } fn g() { show 1; }")(showing(most, "", "try { f(); } catch e { return 6; } return 5;"), fmt.Sprintf("%s | trap trace | %d", full, steps+8)),
		// The value comes ahead of it.
		main(showing(most, "", "show 1 / 0; return 5;"), fmt.Sprintf("%s | trap zero | %d", full, steps+2)),
		main(showing(most, "", "try { show input; } catch e { return e; } return 5;"), fmt.Sprintf("%s | halted -4 | %d", full, steps+4)),
		inMain("fn f(): int { return 1 / 0; }")(showing(most, "", "try { show f(); } catch e { return e; } return 5;"), fmt.Sprintf("%s | halted -2 | %d", full, steps+6)),
		inMain("fn f(): int { show 1; return 1 / 0; }")(showing(most, "", "try { show f(); } catch e { return e; } return 5;"), fmt.Sprintf("%s | trap trace | %d", full, steps+5)),
		inMain("fn f(): int { fail 3; }")(showing(most, "", "try { show f(); } catch e { show e; } return 5;"), fmt.Sprintf("%s | trap trace | %d", full, steps+6)),
	)
}

// What is caught leaves room for no more than there was.
func TestMaxTraceOfTries(t *testing.T) {
	main := inMain("")
	text := "let n = 0; while true { try { show n; n = n + 1; fail n; } catch e { if e >= %d { return e; } } } return 0;"
	trace, o, _ := program(t, main(fmt.Sprintf(text, api.MaxTrace), "").texts...).Run(nil, api.MaxFuel)
	is(t, "MaxTrace", fmt.Sprint(len(trace), howItStands(o)), fmt.Sprint(api.MaxTrace, "halted 1024"))
	trace, o, _ = program(t, main(fmt.Sprintf(text, api.MaxTrace+1), "").texts...).Run(nil, api.MaxFuel)
	is(t, "one more", fmt.Sprint(len(trace), howItStands(o)), fmt.Sprint(api.MaxTrace, "trap trace"))
}
