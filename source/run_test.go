package source_test

import (
	"fmt"
	"math"
	"testing"

	"foundry/api"
	"foundry/source"
)

// The chapter's examples.
func TestExamples(t *testing.T) {
	first := "var n: int = 2; fn main(): int { while n > 0 { show n; n = n - 1; } return 7; }"
	each(t,
		one(first, "2 1 | halted 7 | 10"),
		one("fn main(): int { try { fail 5; } catch e { show e; } return 1 / 0; }", "5 | trap zero | 5"),
		one("fn f(): int { return f(); } fn main(): int { return f(); }", " | trap deep | 128"),
	)
}

// Those of the whole document that are the language's.
func TestExamplesOfTheWhole(t *testing.T) {
	main := inMain("")
	each(t,
		main("show 0.0 / 0.0; return 0;", "nan | halted 0 | 3"),
		main("show 1.0 / -0.0; return 0;", "-inf | halted 0 | 3"),
		main("return int(0.0 / 0.0);", " | trap conv | 2"),
		main("try { fail 5; } catch e { show e; } return 0;", "5 | halted 0 | 5"),
		main("try { show 1 / 0; } catch e { show e; } return 0;", "-2 | halted 0 | 5"),
		deed{texts: []string{"module a; export const X: int = 1;", "import a; fn main(): int { show a.X; return 0; }"}, want: "1 | halted 0 | 3"},
		deed{texts: []string{"module a; export const X: int = 2;", "import a; fn main(): int { show a.X; return 0; }"}, want: "2 | halted 0 | 3"},
	)
}

// P1302: what is nothing.

const nothing = " | running | 0"

func TestRunOfNil(t *testing.T) {
	var p *source.Program
	for _, steps := range []int{math.MinInt, -1, 0, 1, 100, api.MaxFuel, api.MaxFuel + 1, math.MaxInt} {
		is(t, fmt.Sprint("nil, ", steps), told(p.Run(nil, steps)), nothing)
		is(t, fmt.Sprint("nil with input, ", steps), told(p.Run([]int64{1}, steps)), nothing)
	}
}

func TestRunOfStepsOutOfRange(t *testing.T) {
	p := program(t, "fn main(): int { show 1; return 7; }")
	for _, steps := range []int{math.MinInt, math.MinInt32, -2, -1, api.MaxFuel + 1, api.MaxFuel + 2, math.MaxInt32, math.MaxInt} {
		is(t, fmt.Sprint(steps), told(p.Run(nil, steps)), nothing)
	}
	is(t, "0", told(p.Run(nil, 0)), nothing)
	is(t, "1", told(p.Run(nil, 1)), " | running | 1")
	is(t, "2", told(p.Run(nil, 2)), "1 | running | 2")
	is(t, "3", told(p.Run(nil, 3)), "1 | halted 7 | 3")
	is(t, "4", told(p.Run(nil, 4)), "1 | halted 7 | 3")
	is(t, "MaxFuel", told(p.Run(nil, api.MaxFuel)), "1 | halted 7 | 3")
}

func TestRunOfMaxFuel(t *testing.T) {
	each(t, one("fn main(): int { while true { } return 7; }", fmt.Sprint(" | running | ", api.MaxFuel)))
	// The call, the while, its condition n + 1 times, n times a statement, the return: just MaxFuel steps.
	n := (api.MaxFuel - 4) / 2
	counting := func(n int) string {
		return fmt.Sprintf("var n: int = %d; fn main(): int { while n > 0 { n = n - 1; } return 7; }", n)
	}
	each(t,
		one(counting(n), fmt.Sprint(" | halted 7 | ", api.MaxFuel)),
		one(counting(n+1), fmt.Sprint(" | running | ", api.MaxFuel)),
		one(counting(n-1), fmt.Sprint(" | halted 7 | ", api.MaxFuel-2)),
	)
}

func TestRunOfMuchInput(t *testing.T) {
	takesAll := fmt.Sprintf("var n: int = 0; var s: int = 0; fn main(): int { while n < %d { s = s + input; n = n + 1; } try { show input; } catch e { show e; } return s; }", api.MaxInput)
	p := program(t, takesAll)
	input := make([]int64, api.MaxInput)
	for at := range input {
		input[at] = int64(at)
	}
	sum := api.MaxInput * (api.MaxInput - 1) / 2
	// The call, the while, MaxInput rounds of a condition and two statements, the last condition; try, show, show; return.
	want := fmt.Sprintf("-4 | halted %d | %d", sum, 2+3*api.MaxInput+1+3+1)
	is(t, "MaxInput numbers", told(p.Run(input, api.MaxFuel)), want)
	is(t, "one more", told(p.Run(append(input, 1), api.MaxFuel)), nothing)
	is(t, "many more", told(p.Run(make([]int64, 5*api.MaxInput), api.MaxFuel)), nothing)
	takesNone := program(t, "fn main(): int { return 7; }")
	is(t, "MaxInput numbers that nobody takes", told(takesNone.Run(input, 9)), " | halted 7 | 2")
	is(t, "one more that nobody takes", told(takesNone.Run(append(input, 1), 9)), nothing)
}

// Each run is a new one: of its variables, its input, its steps, its trace.
func TestRunAgain(t *testing.T) {
	p := program(t,
		"import k; var n: int = 3; var f: float = 0.5; var b: bool = false; fn main(): int { show n; show f; show b; n = n + input; f = f * 2.0; b = !b; k.more(); show n; show f; show b; return n; }",
		"module k; var n: int = 7; export fn more() { n = n + 1; show n; }",
	)
	want := func(n int) string {
		return fmt.Sprintf("3 0x1p-1 false 8 %d 0x1p+0 true | halted %d | 15", n, n)
	}
	for round := range 3 {
		is(t, fmt.Sprint("round ", round), told(p.Run([]int64{4, 9}, 100)), want(7))
		is(t, fmt.Sprint("other input in round ", round), told(p.Run([]int64{5}, 100)), want(8))
		is(t, fmt.Sprint("cut short in round ", round), told(p.Run([]int64{4, 9}, 7)), "3 0x1p-1 false | running | 7")
		is(t, fmt.Sprint("trapped in round ", round), told(p.Run(nil, 100)), "3 0x1p-1 false | trap input | 5")
	}
}

// P1302: the outcome.

func TestOutcomes(t *testing.T) {
	main := inMain("")
	each(t,
		main("return 0;", " | halted 0 | 2"),
		main("return -1;", " | halted -1 | 2"),
		main("return 9223372036854775807;", " | halted 9223372036854775807 | 2"),
		main("return -9223372036854775807 - 1;", " | halted -9223372036854775808 | 2"),
		main("fail 0;", " | fail 0 | 2"),
		main("fail -7;", " | fail -7 | 2"),
		main("fail 9223372036854775807;", " | fail 9223372036854775807 | 2"),
		main("fail -9223372036854775807 - 1;", " | fail -9223372036854775808 | 2"),
		main("return 9223372036854775807 + 1;", " | trap over | 2"),
		main("return 1 / 0;", " | trap zero | 2"),
		main("return int(inf);", " | trap conv | 2"),
		main("return input;", " | trap input | 2"),
		main("show 1; show 2; fail 3;", "1 2 | fail 3 | 4"),
	)
}

// P1302: steps. Of each kind of statement and of a call: just as many as are made, and one fewer, are tried by each.
func TestSteps(t *testing.T) {
	main := inMain("var n: int = 0; fn none() { } fn num(): int { return 1; } fn two(a: int, b: int): int { let c = a; return b; }")
	each(t,
		main("return 1 + 2 * 3 - 4;", " | halted 3 | 2"),
		main("let a = 1; return a;", " | halted 1 | 3"),
		main("n = 1; return n;", " | halted 1 | 3"),
		main("if true { } return 1;", " | halted 1 | 3"),
		main("if false { } else { } return 1;", " | halted 1 | 3"),
		main("if true { n = 1; n = 2; } else { n = 3; } return n;", " | halted 2 | 5"),
		main("if false { n = 1; n = 2; } else { n = 3; } return n;", " | halted 3 | 4"),
		main("while false { } return 1;", " | halted 1 | 4"),
		main("while n < 1 { n = n + 1; } return 1;", " | halted 1 | 6"),
		main("while n < 3 { n = n + 1; } return 1;", " | halted 1 | 10"),
		main("show 1; return 1;", "1 | halted 1 | 3"),
		main("fail 1;", " | fail 1 | 2"),
		main("try { } catch e { n = 1; } return n;", " | halted 0 | 3"),
		main("try { n = 1; n = 2; } catch e { n = 3; } return n;", " | halted 2 | 5"),
		main("try { fail 1; n = 2; } catch e { n = 3; } return n;", " | halted 3 | 5"),
		main("none(); return 1;", " | halted 1 | 4"),
		main("num(); return 1;", " | halted 1 | 5"),
		main("return num();", " | halted 1 | 4"),
		main("return num() + num();", " | halted 2 | 6"),
		main("return two(num(), two(1, 2));", " | halted 2 | 10"),
		main("while num() > n { n = n + num(); } return n;", " | halted 1 | 12"),
		main("return 1; show 2; fail 3;", " | halted 1 | 2"),
	)
}

// Where the steps run out: at a statement, at a condition, at a call behind its arguments.
func TestRunsThatAreCutShort(t *testing.T) {
	p := program(t, "var n: int = 0; fn t(a: int): int { show a; return a; } fn main(): int { while t(n) < 1 { t(t(5) + 1); n = n + 1; } return 9; }")
	for steps, want := range []string{
		"", "", "", // nothing, main's call, the while
		"",        // its condition
		"",        // the call of t
		"0",       // show
		"0",       // return
		"0",       // the statement t(..)
		"0",       // the call within
		"0 5",     // show
		"0 5",     // return
		"0 5",     // the call
		"0 5 6",   // show
		"0 5 6",   // return
		"0 5 6",   // n = n + 1
		"0 5 6",   // the condition
		"0 5 6",   // the call
		"0 5 6 1", // show
		"0 5 6 1", // return
	} {
		is(t, fmt.Sprint(steps), told(p.Run(nil, steps)), fmt.Sprint(want, " | running | ", steps))
	}
	is(t, "19", told(p.Run(nil, 19)), "0 5 6 1 | halted 9 | 19")
	is(t, "20", told(p.Run(nil, 20)), "0 5 6 1 | halted 9 | 19")
}

// No try catches that the steps run out.
func TestTryDoesNotCatchTheEndOfSteps(t *testing.T) {
	p := program(t, "fn f() { try { while true { } } catch e { show e; } } fn main(): int { try { try { f(); } catch e { show e; } } catch e { show e; } return 1; }")
	for steps := range 30 {
		is(t, fmt.Sprint(steps), told(p.Run(nil, steps)), fmt.Sprint(" | running | ", steps))
	}
}

// P1305.

func TestBound(t *testing.T) {
	numbers := []int64{0, 1, -1, 5, -7, math.MaxInt64, math.MinInt64}
	for _, value := range numbers {
		for trap, want := range []int64{0, -1, -2, -3, -4, -5, value, 0, 0, 0, 0} {
			is(t, fmt.Sprint("Bound of ", trap, " and ", value), source.Bound(trap, value), want)
		}
		for _, trap := range []int{-1, -2, -5, -6, -7, 8, 100, 256 + api.TrapFail, 1<<32 + api.TrapFail, math.MaxInt, math.MinInt} {
			is(t, fmt.Sprint("Bound of ", trap, " and ", value), source.Bound(trap, value), 0)
		}
		is(t, "TrapFail", source.Bound(api.TrapFail, value), value)
		is(t, "TrapTrace", source.Bound(api.TrapTrace, value), 0)
	}
}
