package source_test

import (
	"fmt"
	"strings"
	"testing"

	"foundry/api"
	"foundry/source"
)

// kOfTraps: a module whose functions trap, and which hands on what it is given.
const kOfTraps = `module k;
export fn over() { let x = 9223372036854775807 + one(); } fn one(): int { return 1; }
export fn zero() { let x = 1 / 0; }
export fn conv() { let x = int(nan); }
export fn none() { let x = input; }
export fn deep() { deep(); }
export fn failing() { fail 77; }
`

// trapCase: a statement that traps, what a catch is given of it, how a run ends where nothing catches it.
type trapCase struct{ stmt, bound, end string }

// trapCases: each trap but TrapTrace, in a statement of its own, in a call, in another module's.
func trapCases() []trapCase {
	rows := []trapCase{
		{"let x = 9223372036854775807 + 1;", "-1", "trap over"},
		{"let x = -(-9223372036854775807 - 1);", "-1", "trap over"},
		{"let x = 3037000500 * 3037000500;", "-1", "trap over"},
		{"let x = 1 / 0;", "-2", "trap zero"},
		{"let x = 1 % 0;", "-2", "trap zero"},
		{"let x = int(nan);", "-3", "trap conv"},
		{"let x = int(inf);", "-3", "trap conv"},
		{"let x = input;", "-4", "trap input"},
		{"fail 77;", "77", "fail 77"},
		{"fail 0;", "0", "fail 0"},
		{"fail -2;", "-2", "fail -2"},
		{"fail 9223372036854775807;", "9223372036854775807", "fail 9223372036854775807"},
	}
	for _, row := range []trapCase{{"over", "-1", "trap over"}, {"zero", "-2", "trap zero"}, {"conv", "-3", "trap conv"}, {"none", "-4", "trap input"}, {"deep", "-5", "trap deep"}, {"failing", "77", "fail 77"}} {
		rows = append(rows, trapCase{row.stmt + "();", row.bound, row.end}, trapCase{"k." + row.stmt + "();", row.bound, row.end})
		rows = append(rows, trapCase{"through(); " + row.stmt + "();", row.bound, row.end})
	}
	return rows
}

// withTraps: main with that body, and all that trapCases call.
func withTraps(body string) []string {
	own := strings.ReplaceAll(strings.TrimPrefix(kOfTraps, "module k;"), "export ", "")
	return []string{"import k; var v: int = 0; " + own + " fn through() { try { fail 1; } catch e { } } fn main(): int { " + body + " }", kOfTraps}
}

// ends fails unless the run shows and ends so, with however many steps.
func ends(t *testing.T, body, want string) {
	t.Helper()
	trace, o, _ := program(t, withTraps(body)...).Run(nil, api.MaxFuel)
	is(t, body, shown(trace)+" | "+howItStands(o), want)
}

// P1304: each trap that a try catches, and where it does not.

func TestTryOfEachTrap(t *testing.T) {
	for _, c := range trapCases() {
		put := func(body string) string { return strings.ReplaceAll(body, "TRAP", c.stmt) }
		told := func(text string) string {
			return strings.NewReplacer("BOUND", c.bound, "END", c.end).Replace(text)
		}
		for _, row := range [][2]string{
			{"show 1; TRAP show 2; return 0;", "1 | END"},
			{"try { show 1; TRAP show 2; } catch e { show e; } show 9; return 0;", "1 BOUND 9 | halted 0"},
			{"try { TRAP } catch e { return e; } return 0;", " | halted BOUND"},
			{"try { if true { while true { TRAP } } } catch e { show e; } return 0;", "BOUND | halted 0"},
			// Its second block is not within it.
			{"try { fail 5; } catch e { show e; TRAP show 2; } show 3; return 0;", "5 | END"},
			{"try { try { fail 5; } catch e { show e; TRAP show 2; } show 3; } catch e { show e; } return 0;", "5 BOUND | halted 0"},
			{"try { TRAP } catch e { show e; TRAP }  show 3; return 0;", "BOUND | END"},
			// Neither is what stands behind it.
			{"try { show 1; } catch e { show e; } TRAP return 0;", "1 | END"},
			{"try { fail 1; } catch e { show e; } TRAP return 0;", "1 | END"},
			{"TRAP try { show 1; } catch e { show e; } return 0;", " | END"},
			// The next one has it, no other.
			{"try { try { TRAP } catch e { show e; } show 3; } catch e { show 4; } return 0;", "BOUND 3 | halted 0"},
			{"try { try { show 1; } catch e { show 2; } TRAP } catch e { show e; } return 0;", "1 BOUND | halted 0"},
			{"try { try { TRAP } catch e { show e; fail 6; } show 3; } catch e { show e; } return 0;", "BOUND 6 | halted 0"},
			{"try { fail 1; } catch e { try { TRAP } catch f { show f; show e; } } return 0;", "BOUND 1 | halted 0"},
			// What was changed and shown stays.
			{"let a = 1; try { a = 2; v = 3; show a; TRAP a = 4; v = 5; } catch e { show a; show v; a = a * 10; } show a; return v;", "2 2 3 20 | halted 3"},
			{"let n = 0; while n < 3 { try { n = n + 1; show n; TRAP } catch e { show e; } } return n;", "1 BOUND 2 BOUND 3 BOUND | halted 3"},
		} {
			ends(t, put(row[0]), told(row[1]))
		}
	}
}

// A trap in each place where an expression stands.
func TestTryOfTrapsInStatements(t *testing.T) {
	for _, e := range []string{"1 / 0", "(1 / 0 + one())", "one() / (one() - one())"} {
		for _, stmt := range []string{
			"let x = E;", "v = E;", "if E == 1 { show 2; } else { show 3; }", "while E == 1 { show 2; }", "return E;", "show E;", "fail E;",
			"try { show E; } catch x { fail x; }", "try { fail 1; } catch x { show E; }", "if one() == 1 && E == 1 { }", "if one() == 2 || E == 1 { }",
		} {
			ends(t, "try { show 1; "+strings.ReplaceAll(stmt, "E", e)+" show 4; } catch e { show e; } return 5;", "1 -2 | halted 5")
		}
	}
}

// The calls that were made since the try are over, those ahead of it are not.
func TestTryEndsCalls(t *testing.T) {
	main := inMain("fn f(n: int): int { if n > 1 { return f(n - 1) + 1; } return 1; } fn deep() { deep(); } fn bad(n: int) { if n == 0 { fail 3; } bad(n - 1); } fn g(n: int): int { try { deep(); } catch e { show e; } return f(n); } fn h(n: int): int { try { bad(20); } catch e { return f(n) + e; } return 0; }")
	all := api.MaxCalls
	ends := func(body, want string) {
		t.Helper()
		trace, o, _ := program(t, main(body, "").texts...).Run(nil, api.MaxFuel)
		is(t, body, shown(trace)+" | "+howItStands(o), want)
	}
	ends(fmt.Sprintf("try { deep(); } catch e { show e; } return f(%d);", all-1), "-5 | halted 63")
	ends(fmt.Sprintf("try { deep(); } catch e { show e; } return f(%d);", all), "-5 | trap deep")
	ends(fmt.Sprintf("try { deep(); } catch e { return f(%d); } return 0;", all-1), " | halted 63")
	ends(fmt.Sprintf("try { deep(); } catch e { return f(%d); } return 0;", all), " | trap deep")
	ends(fmt.Sprintf("return g(%d);", all-2), "-5 | halted 62")
	ends(fmt.Sprintf("return g(%d);", all-1), "-5 | trap deep")
	ends(fmt.Sprintf("return h(%d);", all-2), " | halted 65")
	ends(fmt.Sprintf("return h(%d);", all-1), " | trap deep")
	ends(fmt.Sprintf("let n = 0; while n < 100 { try { bad(20); } catch e { n = n + 1; } } return f(%d);", all-1), " | halted 63")
	ends(fmt.Sprintf("let n = 0; while n < 100 { n = n + 1; try { f(20); } catch e { } } try { return f(%d); } catch e { return e; }", all), " | halted -5")
	ends(fmt.Sprintf("try { return g(%d); } catch e { return f(%d); }", all-1, all-1), "-5 | halted 63")
}

// The variables of a call that is over are gone; those of the try's own call are there.
func TestTryAndVariablesOfCalls(t *testing.T) {
	each(t,
		one("fn f(a: int, n: int): int { let x = a * 10; if n > 0 { f(a + 1, n - 1); } a = 0; x = 0; fail 4; } fn main(): int { let a = 1; let x = 2; try { a = 5; f(a, 3); a = 6; } catch e { show a; show x; x = e; } return x + a; }", "5 2 | halted 9 | 28"),
		one("fn f(n: int): int { let x = n; try { if n > 0 { x = x * 10; x = f(n - 1); } fail n; } catch e { show e; show x; } return x + 1; } fn main(): int { return f(2); }", "0 0 1 1 2 2 | halted 3 | 30"),
	)
}

// P1304: return in a try, and in its second block.

func TestReturnInTry(t *testing.T) {
	main := inMain("var v: int = 0; fn f(): int { try { return 1; } catch e { return 100; } } fn g(): int { try { fail 3; } catch e { return e + 1; } return 100; } fn none() { try { v = v + 1; return; } catch e { v = 100; } v = 200; } fn loop(): int { while true { try { v = v + 1; if v > 3 { return v; } fail v; } catch e { show e; } } return 0; } fn nested(): int { try { try { return 7; } catch e { return 8; } } catch e { return 9; } }")
	each(t,
		main("return f();", " | halted 1 | 5"),
		main("return g();", " | halted 4 | 6"),
		main("none(); return v;", " | halted 1 | 7"),
		main("return loop();", "1 2 3 | halted 4 | 27"),
		main("return nested();", " | halted 7 | 6"),
		main("try { return 1 / 0; } catch e { return e; }", " | halted -2 | 4"),
		main("try { return 1; } catch e { return 2; }", " | halted 1 | 3"),
		main("try { fail 9; } catch e { while true { return e; } } return 0;", " | halted 9 | 6"),
		// The try is over with its call: it catches nothing that comes behind it.
		main("show f(); fail 5;", "1 | fail 5 | 6"),
		main("show nested(); none(); show loop(); fail 6;", "7 2 3 4 | fail 6 | 32"),
		main("try { show f(); fail 5; } catch e { show e; } return 0;", "1 5 | halted 0 | 9"),
	)
}

// P1304: what the catch gives is a variable of its own.

func TestCatchGivesAVariable(t *testing.T) {
	main := inMain("var v: int = 0; fn f(n: int): int { try { if n > 0 { f(n - 1); } fail n; } catch e { v = v * 10 + e; e = e * 2; v = v * 10 + e; } return 0; }")
	each(t,
		main("try { fail 4; } catch e { e = e + 1; show e; } return 0;", "5 | halted 0 | 6"),
		main("let n = 0; while n < 2 { n = n + 1; try { fail n; } catch e { show e; e = 50; } } return n;", "1 2 | halted 2 | 17"),
		main("f(3); return v;", " | halted 122436 | 38"),
		main("try { fail 1; } catch a { try { fail 2; } catch b { show a; show b; a = b; } show a; } return 0;", "1 2 2 | halted 0 | 10"),
	)
}

// As many tries within calls as there may be, with what none of them catches, and with what the outermost one has.
func TestManyTries(t *testing.T) {
	const tries = 29
	nested := func(end, again string) *source.Program {
		return program(t, "var n: int = 0; fn f() { n = n + 1; if n == 60 { "+end+" } "+strings.Repeat("try { ", tries)+"f(); "+strings.Repeat("} catch e { "+again+" }", tries)+" } fn main(): int { try { f(); } catch e { show e; } return n; }")
	}
	is(t, "steps run out", told(nested("while true { }", "fail e;").Run(nil, api.MaxFuel)), fmt.Sprint(" | running | ", api.MaxFuel))
	trace, o, _ := nested("while true { show n; }", "fail e;").Run(nil, api.MaxFuel)
	is(t, "TrapTrace", fmt.Sprint(len(trace), howItStands(o)), fmt.Sprint(api.MaxTrace, "trap trace"))
	trace, o, _ = nested("fail 0;", "fail e + 1;").Run(nil, api.MaxFuel)
	is(t, "fail", shown(trace)+howItStands(o), fmt.Sprint(59*tries, "halted 60"))
}
