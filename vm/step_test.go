package vm_test

import (
	"fmt"
	"math"
	"strings"
	"testing"

	"foundry/api"
	"foundry/code"
	"foundry/fold"
	"foundry/image"
	"foundry/types"
)

// P1903: each instruction.

func TestPush(t *testing.T) {
	walksSo(t, "of each type", begun(t, just("push 1; push 1.5; push true; push -2; return")),
		"0@0()[]0", "0@1()[1]0", "0@2()[1 0x1.8p+0]0", "0@3()[1 0x1.8p+0 true]0", "0@4()[1 0x1.8p+0 true -2]0", "halted -2")
	for _, v := range edgeValues() {
		m := after(t, 1, img(code.Fn{Sig: code.Sig{Result: 1}, Code: []code.Ins{{Op: 1, V: v}, {Op: 12}, {Op: 1, V: num(0)}, {Op: 11}}}))
		isText(t, "Frames", framesTold(m.Frames()), "0@1()["+types.Show(v)+"]0")
		isText(t, "Run", runTold(m.Run(9)), "("+types.Show(v)+") halted 0 0")
	}
}

func TestLocals(t *testing.T) {
	walksSo(t, "get and put", begun(t, img(fn(":i", "ifb", "push 7; put 0; get 0; push 1.5; put 1; get 1; push true; put 2; get 2; push 8; put 0; get 0; return"))),
		"0@0(0 0x0p+0 false)[]0", "0@1(0 0x0p+0 false)[7]0", "0@2(7 0x0p+0 false)[]0", "0@3(7 0x0p+0 false)[7]0", "0@4(7 0x0p+0 false)[7 0x1.8p+0]0",
		"0@5(7 0x1.8p+0 false)[7]0", "0@6(7 0x1.8p+0 false)[7 0x1.8p+0]0", "0@7(7 0x1.8p+0 false)[7 0x1.8p+0 true]0", "0@8(7 0x1.8p+0 true)[7 0x1.8p+0]0",
		"0@9(7 0x1.8p+0 true)[7 0x1.8p+0 true]0", "0@10(7 0x1.8p+0 true)[7 0x1.8p+0 true 8]0", "0@11(8 0x1.8p+0 true)[7 0x1.8p+0 true]0", "0@12(8 0x1.8p+0 true)[7 0x1.8p+0 true 8]0", "halted 8")
	last := img(code.Fn{Sig: code.Sig{Result: 1}, Locals: times(64, 1), Code: asm("push 3; put 63; push 4; put 62; get 63; return")})
	isText(t, "the last of as many as there may be", runTold(begun(t, last).Run(9)), "() halted 3 0")
}

func TestVariables(t *testing.T) {
	i := withVars(just("load 1; store 0; load 0; push 9; store 1; load 2; store 2; load 1; return"), num(4), num(5), truth(1))
	walksSo(t, "load and store", begun(t, i),
		"0@0()[]0", "0@1()[5]0 vars 5 5 true", "0@2()[]0", "0@3()[5]0", "0@4()[5 9]0 vars 5 9 true", "0@5()[5]0", "0@6()[5 true]0", "0@7()[5]0", "0@8()[5 9]0", "halted 9")
	// All calls have the same ones.
	i = withVars(img(fn(":i", "", "push 1; store 0; call 1; load 0; return"), fn("", "", "load 0; show; push 2; store 0; return")), num(0))
	isText(t, "of several calls", runTold(begun(t, i).Run(20)), "(1) halted 2 0")
}

func TestJumps(t *testing.T) {
	walksSo(t, "jump", begun(t, just("jump 3; push 1; return; push 2; jump 2")), "0@0()[]0", "0@3()[]0", "0@4()[2]0", "0@2()[2]0", "halted 2")
	walksSo(t, "unless false", begun(t, just("push false; unless 4; push 1; return; push 2; return")), "0@0()[]0", "0@1()[false]0", "0@4()[]0", "0@5()[2]0", "halted 2")
	walksSo(t, "unless true", begun(t, just("push true; unless 4; push 1; return; push 2; return")), "0@0()[]0", "0@1()[true]0", "0@2()[]0", "0@3()[1]0", "halted 1")
	walksSo(t, "unless over a value", begun(t, just("push 5; push false; unless 4; jump 4; return")), "0@0()[]0", "0@1()[5]0", "0@2()[5 false]0", "0@4()[5]0", "halted 5")
	walksSo(t, "to itself", after(t, 300, just("jump 0")), strings.Repeat("0@0()[]0 / ", 200)+"running 0@0()[]0")
	far := append(append(asm("jump 4094"), times(4093, code.Ins{Op: 11})...), asm("push 6; return")...)
	far[1] = code.Ins{Op: 8, N: 1}
	isText(t, "to the last ones of as many as there may be", runTold(begun(t, img(code.Fn{Sig: code.Sig{Result: 1}, Code: far})).Run(9)), "() halted 6 0")
}

func TestDrop(t *testing.T) {
	walksSo(t, "drop", begun(t, just("push 1; push true; drop; push 1.5; drop; return")),
		"0@0()[]0", "0@1()[1]0", "0@2()[1 true]0", "0@3()[1]0", "0@4()[1 0x1.8p+0]0", "0@5()[1]0", "halted 1")
}

// P1903: un and bin.

// operation: an image that puts the values and works the operator out; Main has an int of it, where it has one.
func operation(op, operator int, l ...api.Value) image.Image {
	var all []code.Ins
	for _, v := range l {
		all = append(all, code.Ins{Op: 1, V: v})
	}
	all = append(all, code.Ins{Op: op, N: operator}, code.Ins{Op: 12}, code.Ins{Op: 1, V: num(1)}, code.Ins{Op: 11})
	return img(code.Fn{Sig: code.Sig{Result: 1}, Code: all})
}

func TestOperatorsOfOne(t *testing.T) {
	for _, c := range []struct{ text, want string }{
		{"push 5; un neg", "-5"}, {"push 0; un neg", "0"}, {"push 9223372036854775807; un neg", "-9223372036854775807"}, {"push 1.5; un neg", "-0x1.8p+0"}, {"push nan; un neg", "nan"},
		{"push true; un not", "false"}, {"push false; un not", "true"},
		{"push 2.75; un int", "2"}, {"push -2.75; un int", "-2"}, {"push 7; un float", "0x1.cp+2"},
		{"push -9223372036854775808; un neg", "trap 1"}, {"push 1e300; un int", "trap 3"}, {"push nan; un int", "trap 3"},
	} {
		operatorIs(t, c.text, c.want)
	}
}

func TestOperatorsOfTwo(t *testing.T) {
	for _, c := range []struct{ text, want string }{
		{"push 7; push 2; bin +", "9"}, {"push 7; push 2; bin -", "5"}, {"push 7; push 2; bin *", "14"}, {"push 7; push 2; bin /", "3"}, {"push 7; push 2; bin %", "1"},
		{"push -7; push 2; bin /", "-3"}, {"push -7; push 2; bin %", "-1"}, {"push 2; push 7; bin /", "0"}, {"push 2; push 7; bin %", "2"},
		{"push 7; push 2; bin ==", "false"}, {"push 7; push 7; bin ==", "true"}, {"push 7; push 2; bin !=", "true"}, {"push 7; push 7; bin !=", "false"},
		{"push 7; push 2; bin <", "false"}, {"push 2; push 7; bin <", "true"}, {"push 7; push 7; bin <", "false"}, {"push 7; push 2; bin <=", "false"}, {"push 2; push 7; bin <=", "true"}, {"push 7; push 7; bin <=", "true"},
		{"push 7; push 2; bin >", "true"}, {"push 2; push 7; bin >", "false"}, {"push 7; push 7; bin >", "false"}, {"push 7; push 2; bin >=", "true"}, {"push 2; push 7; bin >=", "false"}, {"push 7; push 7; bin >=", "true"},
		{"push 1.5; push 0.25; bin +", "0x1.cp+0"}, {"push 1.5; push 0.25; bin -", "0x1.4p+0"}, {"push 1.5; push 0.25; bin *", "0x1.8p-2"}, {"push 1.5; push 0.25; bin /", "0x1.8p+2"}, {"push 1.0; push 0.0; bin /", "inf"}, {"push 0.0; push 0.0; bin /", "nan"},
		{"push nan; push nan; bin ==", "false"}, {"push nan; push nan; bin !=", "true"}, {"push 0.0; push -0.0; bin ==", "true"}, {"push 1.5; push 2.5; bin <", "true"}, {"push 1.5; push 2.5; bin >", "false"}, {"push 1.5; push 1.5; bin <=", "true"}, {"push 2.5; push 1.5; bin >=", "true"}, {"push nan; push 1.5; bin >=", "false"},
		{"push true; push true; bin ==", "true"}, {"push true; push false; bin ==", "false"}, {"push true; push false; bin !=", "true"}, {"push false; push false; bin !=", "false"},
		{"push 9223372036854775807; push 1; bin +", "trap 1"}, {"push -9223372036854775808; push 1; bin -", "trap 1"}, {"push 9223372036854775807; push 2; bin *", "trap 1"}, {"push -9223372036854775808; push -1; bin /", "trap 1"},
		{"push 5; push 0; bin /", "trap 2"}, {"push 5; push 0; bin %", "trap 2"}, {"push 0; push 0; bin /", "trap 2"},
	} {
		operatorIs(t, c.text, c.want)
	}
}

// operatorIs fails unless what the text puts is shown so; or it traps so, and all is as ahead of that.
func operatorIs(t *testing.T, text, want string) {
	t.Helper()
	m := begun(t, just(text+"; show; push 1; return"))
	steps := strings.Count(text, ";")
	m.Run(steps)
	frames := framesTold(m.Frames())
	got := runTold(m.Run(9))
	trap, trapped := strings.CutPrefix(want, "trap ")
	if !trapped {
		isText(t, text, got, "("+want+") halted 1 0")
		is(t, text+": Steps", m.Steps(), steps+4)
		return
	}
	isText(t, text, got, "() trapped "+trap+" 0 0")
	is(t, text+": Steps", m.Steps(), steps+1)
	isText(t, text+": Frames", framesTold(m.Frames()), frames)
}

// Of all operators with values of all types: what fold makes of them.
func TestOperatorsAreFolds(t *testing.T) {
	tried := map[int]int{}
	for _, a := range edgeValues() {
		for operator := api.UNeg; operator <= api.UFloat; operator++ {
			v, trap := fold.Un(operator, a)
			tried[trap]++
			foldIs(t, 6, operator, v, trap, a)
		}
		for _, b := range edgeValues() {
			for operator := api.BAdd; operator <= api.BGe; operator++ {
				v, trap := fold.Bin(operator, a, b)
				tried[trap]++
				foldIs(t, 7, operator, v, trap, a, b)
			}
		}
	}
	for trap := -1; trap <= api.TrapConv; trap++ {
		if tried[trap] < 3 {
			t.Errorf("%d times %d", tried[trap], trap)
		}
	}
}

func foldIs(t *testing.T, op, operator int, v api.Value, trap int, l ...api.Value) {
	t.Helper()
	i := operation(op, operator, l...)
	what := fmt.Sprint(op, operator, valuesTold(l))
	switch {
	case trap < 0:
		newIs(t, what, i, nil, api.ErrCode)
	case trap == 0:
		isText(t, what, runTold(begun(t, i).Run(9)), "("+types.Show(v)+") halted 1 0")
	default:
		isText(t, what, runTold(begun(t, i).Run(9)), fmt.Sprint("() trapped ", trap, " 0 0"))
	}
}

// P1903: call and return.

func TestCallAndReturn(t *testing.T) {
	main := fn(":i", "b", "push 7; push 1; push 1.5; push true; call 1; drop; return")
	called := fn("ifb:f", "f", "push 9; get 1; return")
	walksSo(t, "with arguments and a result", begun(t, img(main, called)),
		"0@0(false)[]0", "0@1(false)[7]0", "0@2(false)[7 1]0", "0@3(false)[7 1 0x1.8p+0]0", "0@4(false)[7 1 0x1.8p+0 true]0",
		"0@5(false)[7]0 1@0(1 0x1.8p+0 true 0x0p+0)[]0", "0@5(false)[7]0 1@1(1 0x1.8p+0 true 0x0p+0)[9]0", "0@5(false)[7]0 1@2(1 0x1.8p+0 true 0x0p+0)[9 0x1.8p+0]0",
		"0@5(false)[7 0x1.8p+0]0", "0@6(false)[7]0", "halted 7")
	walksSo(t, "without a result", begun(t, img(fn(":i", "", "push 4; push 5; call 1; return"), fn("i", "", "get 0; return"))),
		"0@0()[]0", "0@1()[4]0", "0@2()[4 5]0", "0@3()[4]0 1@0(5)[]0", "0@3()[4]0 1@1(5)[5]0", "0@3()[4]0", "halted 4")
	walksSo(t, "without arguments", begun(t, img(fn(":i", "", "call 1; return"), fn(":i", "", "push 6; return"))),
		"0@0()[]0", "0@1()[]0 1@0()[]0", "0@1()[]0 1@1()[6]0", "0@1()[6]0", "halted 6")
}

// The order of the arguments, as many as there may be.
func TestArgumentsInOrder(t *testing.T) {
	m := after(t, 9, img(fn(":i", "", "push 1; push 2.5; push true; push 4; push 5; push false; push 7; push 8; call 1; return"), fn("ifbiibii:i", "i", "get 7; return")))
	isText(t, "Frames", framesTold(m.Frames()), "0@9()[]0 1@0(1 0x1.4p+1 true 4 5 false 7 8 0)[]0")
	isText(t, "Run", runTold(m.Run(9)), "() halted 8 0")
}

// A function that calls itself: each call has locals of its own.
func TestRecursion(t *testing.T) {
	factorial := fn("i:i", "", "get 0; push 2; bin <; unless 6; push 1; return; get 0; get 0; push 1; bin -; call 1; bin *; return")
	i := img(fn(":i", "", "push 5; call 1; return"), factorial)
	m := after(t, 20, i)
	isText(t, "Frames", framesTold(m.Frames()), "0@2()[]0 1@11(5)[5]0 1@11(4)[4]0 1@0(3)[]0")
	isText(t, "Run", runTold(m.Run(200)), "() halted 120 0")
	// Main too may be called; it halts in the first frame alone.
	i = withVars(just("load 0; push 0; bin ==; unless 6; load 0; return; push 0; store 0; call 0; push 10; bin +; return"), num(1))
	walksSo(t, "Main within itself", begun(t, i),
		"0@0()[]0", "0@1()[1]0", "0@2()[1 0]0", "0@3()[false]0", "0@6()[]0", "0@7()[0]0 vars 0", "0@8()[]0",
		"0@9()[]0 0@0()[]0", "0@9()[]0 0@1()[0]0", "0@9()[]0 0@2()[0 0]0", "0@9()[]0 0@3()[true]0", "0@9()[]0 0@4()[]0", "0@9()[]0 0@5()[0]0",
		"0@9()[0]0", "0@10()[0 10]0", "0@11()[10]0", "halted 10")
}

// What else is on the stack of a function that returns does not matter, nor do its open tries.
func TestReturnWithMore(t *testing.T) {
	i := img(fn(":i", "", "push 3; call 1; call 2; return"), fn(":b", "", "push 1.5; push 2; try 5; push true; return; drop; drop; drop; push false; return"), fn("b:i", "", "try 4; push 2.5; push 8; return; return"))
	walksSo(t, "more", begun(t, i),
		"0@0()[]0", "0@1()[3]0", "0@2()[3]0 1@0()[]0", "0@2()[3]0 1@1()[0x1.8p+0]0", "0@2()[3]0 1@2()[0x1.8p+0 2]0", "0@2()[3]0 1@3()[0x1.8p+0 2]1", "0@2()[3]0 1@4()[0x1.8p+0 2 true]1",
		"0@2()[3 true]0", "0@3()[3]0 2@0(true)[]0", "0@3()[3]0 2@1(true)[]1", "0@3()[3]0 2@2(true)[0x1.4p+1]1", "0@3()[3]0 2@3(true)[0x1.4p+1 8]1", "0@3()[3 8]0", "halted 8")
}

func TestHalted(t *testing.T) {
	for _, n := range []int64{0, 1, -1, 300, math.MinInt64, math.MaxInt64} {
		m := begun(t, just(fmt.Sprint("push true; push ", n, "; return")))
		_, o, e := m.Run(9)
		is(t, "Outcome", o, api.Outcome{Kind: api.Halted, Value: n})
		is(t, "Errno", e, api.OK)
		isText(t, "all it tells", told(m), fmt.Sprint("halted ", n, ", 3 steps, 0 taken, frames , vars (), trace ()"))
	}
	i := withVars(img(fn(":i", "i", "input; store 0; push 2; show; push 7; put 0; try 9; get 0; return; return")), num(1))
	m := begun(t, i, 9, 8)
	m.Run(100)
	isText(t, "all it tells", told(m), "halted 7, 9 steps, 1 taken, frames , vars (9), trace (2)")
}

// P1903: TrapDeep.

// deep: makes n calls within one another, of which Main is the first one.
func deep(n int) image.Image {
	return img(fn(":i", "", fmt.Sprint("push ", n-2, "; call 1; return")), fn("i:i", "", "get 0; push 0; bin ==; unless 6; push 77; return; get 0; push 1; bin -; call 1; return"))
}

func TestTrapDeep(t *testing.T) {
	isText(t, "just MaxCalls", runTold(begun(t, deep(64)).Run(2000)), "() halted 77 0")
	m := begun(t, deep(65))
	isText(t, "one more", runTold(m.Run(2000)), "() trapped 5 0 0")
	frames := m.Frames()
	is(t, "how many frames", len(frames), api.MaxCalls)
	isText(t, "the first one", framesTold(frames[:1]), "0@2()[]0")
	isText(t, "the one ahead of the last", framesTold(frames[62:63]), "1@10(2)[]0")
	isText(t, "the last one", framesTold(frames[63:]), "1@9(1)[0]0")
	m = begun(t, just("call 0; return"))
	isText(t, "Main within itself", runTold(m.Run(2000)), "() trapped 5 0 0")
	is(t, "Steps", m.Steps(), 64)
	isText(t, "Frames", framesTold(m.Frames()), strings.Repeat("0@1()[]0 ", 63)+"0@0()[]0")
}

// Calls behind one another are not within one another.
func TestManyCallsAreNotDeep(t *testing.T) {
	i := img(fn(":i", "i", "push 1000; put 0; get 0; push 0; bin !=; unless 12; call 1; get 0; push 1; bin -; put 0; jump 2; push 3; return"), fn("", "", "return"))
	isText(t, "a thousand", runTold(begun(t, i).Run(65536)), "() halted 3 0")
}

// P1903: show and TrapTrace.

// showing: shows as many numbers, 1 and on; each within an open try, if it is asked for.
func showing(n int, tried bool) image.Image {
	open := "jump 1"
	if tried {
		open = "try 14"
	}
	text := fmt.Sprint(open, "; get 0; push ", n, "; bin <; unless 12; get 0; push 1; bin +; put 0; get 0; show; jump 1; push 5; return; return")
	if !tried {
		text = strings.TrimSuffix(text, "; return")
	}
	return img(fn(":i", "i", text))
}

func TestTrapTrace(t *testing.T) {
	for _, tried := range []bool{false, true} {
		m := begun(t, showing(api.MaxTrace, tried))
		l, o, e := m.Run(65536)
		is(t, "just MaxTrace", outcomeTold(o), "halted 5")
		is(t, "Errno", e, api.OK)
		is(t, "how many", len(l), api.MaxTrace)
		for at, v := range l {
			is(t, "a value", v, num(int64(at+1)))
		}
		m = begun(t, showing(api.MaxTrace+1, tried))
		l, o, _ = m.Run(65536)
		is(t, "one more", outcomeTold(o), "trapped 7 0")
		is(t, "how many", len(l), api.MaxTrace)
		isText(t, "Trace", valuesTold(m.Trace()), valuesTold(l))
		open := map[bool]int{false: 0, true: 1}[tried]
		isText(t, "Frames", framesTold(m.Frames()), fmt.Sprint("0@10(1025)[1025]", open))
		is(t, "Steps", m.Steps(), 1+1024*11+10)
	}
}

func TestShow(t *testing.T) {
	walksSo(t, "of each type", begun(t, just("push 1; push 2.5; push true; show; show; show; push 4; show; push 5; return")),
		"0@0()[]0", "0@1()[1]0", "0@2()[1 0x1.4p+1]0", "0@3()[1 0x1.4p+1 true]0 shows true", "0@4()[1 0x1.4p+1]0 shows 0x1.4p+1", "0@5()[1]0 shows 1", "0@6()[]0", "0@7()[4]0 shows 4", "0@8()[]0", "0@9()[5]0", "halted 5")
}

// P1903: fail.

func TestFail(t *testing.T) {
	for _, n := range []int64{0, 1, -1, 5, math.MinInt64, math.MaxInt64} {
		m := begun(t, just(fmt.Sprint("push true; push ", n, "; fail")))
		isText(t, "Run", runTold(m.Run(100)), fmt.Sprint("() trapped 6 ", n, " 0"))
		isText(t, "all it tells", told(m), fmt.Sprint("trapped 6 ", n, ", 3 steps, 0 taken, frames 0@2()[true ", n, "]0, vars (), trace ()"))
	}
}

// P1903: input.

func TestInput(t *testing.T) {
	i := just("input; input; bin -; return")
	walksSo(t, "as many as are taken", begun(t, i, 9, 2), "0@0()[]0 takes 1", "0@1()[9]0 takes 1", "0@2()[9 2]0", "0@3()[7]0", "halted 7")
	walksSo(t, "one too few", begun(t, i, 9), "0@0()[]0 takes 1", "0@1()[9]0", "trapped 4 0 0@1()[9]0")
	walksSo(t, "none", begun(t, i), "0@0()[]0", "trapped 4 0 0@0()[]0")
	m := begun(t, i, 9)
	m.Run(100)
	is(t, "Taken", m.Taken(), 1)
	is(t, "Steps", m.Steps(), 2)
	for _, n := range []int64{0, -1, math.MinInt64, math.MaxInt64} {
		isText(t, "an edge", runTold(begun(t, just("input; return"), n).Run(9)), fmt.Sprint("() halted ", n, " 0"))
	}
}

func TestInputOfMany(t *testing.T) {
	text := "input; put 0; get 0; push 0; bin >; unless 7; jump 0; get 0; return"
	m := begun(t, img(fn(":i", "i", text)), append(times[int64](1023, 3), -6)...)
	isText(t, "MaxInput numbers", runTold(m.Run(65536)), "() halted -6 0")
	is(t, "Taken", m.Taken(), 1024)
	m = begun(t, img(fn(":i", "i", text)), times[int64](1024, 3)...)
	isText(t, "one more is asked for", runTold(m.Run(65536)), "() trapped 4 0 0")
	is(t, "Taken", m.Taken(), 1024)
	isText(t, "Frames", framesTold(m.Frames()), "0@0(3)[]0")
}
