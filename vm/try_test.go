package vm_test

import (
	"fmt"
	"math"
	"strings"
	"testing"

	"foundry/api"
	"foundry/code"
	"foundry/image"
	"foundry/source"
)

// P1903: a trap, and the try that catches it.

func TestTryThatCatches(t *testing.T) {
	walksSo(t, "the chapter's input", begun(t, just("try 3; input; return; show; push 1; return")),
		"0@0()[]0", "0@1()[]1", "0@3()[-4]0 shows -4", "0@4()[]0", "0@5()[1]0", "halted 1")
	walksSo(t, "with values below, and others above them", begun(t, just("push 8; push true; try 9; push 1.5; push 2; push 5; push 0; bin /; fail; show; show; return")),
		"0@0()[]0", "0@1()[8]0", "0@2()[8 true]0", "0@3()[8 true]1", "0@4()[8 true 0x1.8p+0]1", "0@5()[8 true 0x1.8p+0 2]1", "0@6()[8 true 0x1.8p+0 2 5]1", "0@7()[8 true 0x1.8p+0 2 5 0]1",
		"0@9()[8 true -2]0 shows -2", "0@10()[8 true]0 shows true", "0@11()[8]0", "halted 8")
}

// What a catch is given of each trap that can be caught.
func TestBoundOfEachTrap(t *testing.T) {
	for _, c := range []struct {
		text  string
		trap  int
		value int64
	}{
		{"push 9223372036854775807; push 1; bin +", api.TrapOver, 0}, {"push -9223372036854775808; un neg", api.TrapOver, 0}, {"push 1; push 0; bin %", api.TrapZero, 0}, {"push 1e300; un int", api.TrapConv, 0},
		{"input", api.TrapInput, 0}, {"call 1", api.TrapDeep, 0},
		{"push 5; fail", api.TrapFail, 5}, {"push 0; fail", api.TrapFail, 0}, {"push -9223372036854775808; fail", api.TrapFail, math.MinInt64}, {"push 9223372036854775807; fail", api.TrapFail, math.MaxInt64}, {"push -2; fail", api.TrapFail, -2},
	} {
		n := strings.Count(c.text, ";") + 1
		end := "; drop; push 0; return"
		if strings.HasSuffix(c.text, "fail") {
			end = ""
		}
		at := 1 + n + strings.Count(end, ";")
		// Function 1 calls itself till it is too deep.
		i := img(fn(":i", "", fmt.Sprint("try ", at, "; ", c.text, end, "; return")), fn(":i", "", "call 1; return"))
		_, o, _ := begun(t, i).Run(5000)
		is(t, c.text, o, api.Outcome{Kind: api.Halted, Value: source.Bound(c.trap, c.value)})
		want := map[int]int64{api.TrapOver: -1, api.TrapZero: -2, api.TrapConv: -3, api.TrapInput: -4, api.TrapDeep: -5, api.TrapFail: c.value}[c.trap]
		is(t, c.text+": the number", o.Value, want)
		// Without the try it is the outcome.
		i.Fns[0].Code[0] = asm("jump 1")[0]
		_, o, _ = begun(t, i).Run(5000)
		is(t, c.text+" without a try", o, api.Outcome{Kind: api.Trapped, Trap: c.trap, Value: c.value})
	}
}

func TestStepsOfATrap(t *testing.T) {
	m := after(t, 2, just("try 3; input; return; show; push 1; return"))
	is(t, "a step that traps is one", m.Steps(), 2)
	is(t, "it goes on", outcomeTold(m.Outcome()), "running")
	isText(t, "nothing is shown", valuesTold(m.Trace()), "")
}

// What was changed and shown ahead of the trap stays.
func TestWhatWasDoneStays(t *testing.T) {
	i := withVars(img(fn(":i", "i", "try 9; push 7; put 0; push 8; store 0; push 9; show; input; return; drop; get 0; show; load 0; return")), num(1))
	m := begun(t, i)
	isText(t, "Run", runTold(m.Run(100)), "(9 7) halted 8 0")
}

// Several open tries of one function.

func TestTryOpenedLast(t *testing.T) {
	walksSo(t, "one within another", begun(t, just("try 8; push true; try 5; input; return; show; input; return; return")),
		"0@0()[]0", "0@1()[]1", "0@2()[true]1", "0@3()[true]2", "0@5()[true -4]1 shows -4", "0@6()[true]1", "0@8()[-4]0", "halted -4")
	walksSo(t, "three, each with another stack", begun(t, just("try 10; push 1; try 9; push 2; try 8; push 3; push 4; fail; fail; fail; return")),
		"0@0()[]0", "0@1()[]1", "0@2()[1]1", "0@3()[1]2", "0@4()[1 2]2", "0@5()[1 2]3", "0@6()[1 2 3]3", "0@7()[1 2 3 4]3", "0@8()[1 2 4]2", "0@9()[1 4]1", "0@10()[4]0", "halted 4")
}

// A try that is closed catches no more.
func TestTryThatIsClosed(t *testing.T) {
	walksSo(t, "the only one", begun(t, just("try 3; untry; input; return")),
		"0@0()[]0", "0@1()[]1", "0@2()[]0", "trapped 4 0 0@2()[]0")
	walksSo(t, "the later one", begun(t, just("try 9; push 1; try 7; untry; drop; input; return; drop; return; return")),
		"0@0()[]0", "0@1()[]1", "0@2()[1]1", "0@3()[1]2", "0@4()[1]1", "0@5()[]1", "0@9()[-4]0", "halted -4")
	walksSo(t, "one that has caught", begun(t, just("try 3; push 5; fail; input; return")),
		"0@0()[]0", "0@1()[]1", "0@2()[5]1", "0@3()[5]0", "trapped 4 0 0@3()[5]0")
	again := begun(t, img(fn(":i", "i", "try 3; get 0; fail; show; get 0; push 1; bin +; put 0; get 0; push 2; bin <; unless 13; jump 0; input; return")))
	isText(t, "one that is opened again", runTold(again.Run(100)), "(0 1) trapped 4 0 0")
}

// A try of a frame ahead.

func TestTryOfAnEarlierFrame(t *testing.T) {
	i := img(fn(":i", "", "push 6; try 6; push 1.5; call 1; drop; return; show; return"), fn("", "", "push true; call 2; drop; return"), fn("", "", "push 3; push 5; fail"))
	walksSo(t, "two frames are gone", begun(t, i),
		"0@0()[]0", "0@1()[6]0", "0@2()[6]1", "0@3()[6 0x1.8p+0]1", "0@4()[6 0x1.8p+0]1 1@0()[]0", "0@4()[6 0x1.8p+0]1 1@1()[true]0",
		"0@4()[6 0x1.8p+0]1 1@2()[true]0 2@0()[]0", "0@4()[6 0x1.8p+0]1 1@2()[true]0 2@1()[3]0", "0@4()[6 0x1.8p+0]1 1@2()[true]0 2@2()[3 5]0",
		"0@6()[6 5]0 shows 5", "0@7()[6]0", "halted 6")
}

func TestTryOfTheLastFrameThatHasOne(t *testing.T) {
	i := img(
		fn(":i", "", "try 3; call 1; return; return"),
		fn(":i", "", "push 8; try 4; call 2; return; bin +; return"),
		fn(":i", "", "try 3; untry; call 3; return"),
		fn(":i", "", "input; return"))
	walksSo(t, "a frame in between", begun(t, i),
		"0@0()[]0", "0@1()[]1", "0@2()[]1 1@0()[]0", "0@2()[]1 1@1()[8]0", "0@2()[]1 1@2()[8]1", "0@2()[]1 1@3()[8]1 2@0()[]0", "0@2()[]1 1@3()[8]1 2@1()[]1", "0@2()[]1 1@3()[8]1 2@2()[]0",
		"0@2()[]1 1@3()[8]1 2@3()[]0 3@0()[]0", "0@2()[]1 1@4()[8 -4]0", "0@2()[]1 1@5()[4]0", "0@2()[4]1", "halted 4")
}

// A try of a call that is over catches no more.
func TestTryOfACallThatIsOver(t *testing.T) {
	i := img(fn(":i", "", "call 1; input; return"), fn("", "", "try 2; return; drop; return"))
	walksSo(t, "over by a return", begun(t, i), "0@0()[]0", "0@1()[]0 1@0()[]0", "0@1()[]0 1@1()[]1", "0@1()[]0", "trapped 4 0 0@1()[]0")
	i = img(fn(":i", "", "try 3; call 1; return; drop; input; return"), fn(":i", "", "try 3; untry; input; return"))
	walksSo(t, "over by a trap", begun(t, i),
		"0@0()[]0", "0@1()[]1", "0@2()[]1 1@0()[]0", "0@2()[]1 1@1()[]1", "0@2()[]1 1@2()[]0", "0@3()[-4]0", "0@4()[]0", "trapped 4 0 0@4()[]0")
}

// TrapDeep comes to the try that is next, and what was deep is gone.
func TestTryOfTrapDeep(t *testing.T) {
	i := img(fn(":i", "", "try 3; call 1; return; drop; try 7; call 1; return; return"), fn(":i", "", "call 1; return"))
	m := begun(t, i)
	isText(t, "twice", runTold(m.Run(1000)), "() halted -5 0")
	is(t, "Steps", m.Steps(), 1+64+2+64+1)
	i = img(fn(":i", "", "call 1; return"), fn(":i", "", "try 3; call 1; return; push -100; bin -; return"))
	m = begun(t, i)
	isText(t, "in the last frame of all", runTold(m.Run(1000)), "() halted 95 0")
}

// TrapTrace is caught by none.
func TestTrapTraceIsCaughtByNone(t *testing.T) {
	fill := "push 1024; put 0; get 0; push 0; bin >; unless 13; get 0; show; get 0; push 1; bin -; put 0; jump 2"
	i := img(fn(":i", "i", fill+"; try 19; push 1.5; try 20; call 1; push 2; return; return; return"), fn("", "b", "try 4; push 5; show; return; drop; return"))
	m := begun(t, i)
	shown, o, _ := m.Run(65536)
	is(t, "how many", len(shown), 1024)
	is(t, "Outcome", outcomeTold(o), "trapped 7 0")
	isText(t, "Frames", framesTold(m.Frames()), "0@17(0)[0x1.8p+0]2 1@2(false)[5]1")
}

// P1903: what there is of a machine that is Trapped: the frames as they stand, ahead of the instruction that trapped.
func TestTrappedFrames(t *testing.T) {
	called := func(text string) image.Image {
		return withVars(img(fn(":i", "i", "push 4; put 0; push true; push 8; call 1; return"), fn("i:i", "b", "push 2.5; call 2; drop; push 1; return"), fn("", "f", text)), num(3))
	}
	ahead := "0@5(4)[true]0 1@2(8 false)[0x1.4p+1]0 2@"
	for _, c := range []struct{ text, outcome, last string }{
		{"push true; push 9223372036854775807; push 1; bin +; return", "trapped 1 0", "3(0x0p+0)[true 9223372036854775807 1]0"},
		{"push true; push -9223372036854775808; un neg; return", "trapped 1 0", "2(0x0p+0)[true -9223372036854775808]0"},
		{"push 7; push 0; bin %; return", "trapped 2 0", "2(0x0p+0)[7 0]0"},
		{"push nan; un int; return", "trapped 3 0", "1(0x0p+0)[nan]0"},
		{"push 1; push 2; input; return", "trapped 4 0", "2(0x0p+0)[1 2]0"},
		{"push 1; push -6; fail", "trapped 6 -6", "2(0x0p+0)[1 -6]0"},
		{"jump 2; return; push -6; jump 5; drop; fail", "trapped 6 -6", "5(0x0p+0)[-6]0"},
		{"push 3.5; put 0; try 5; untry; jump 6; drop; push 2; store 0; input; return", "trapped 4 0", "8(0x1.cp+1)[]0"},
	} {
		m := begun(t, called(c.text))
		_, o, e := m.Run(1000)
		isText(t, c.text, outcomeTold(o), c.outcome)
		is(t, c.text, e, api.OK)
		isText(t, c.text, framesTold(m.Frames()), ahead+c.last)
	}
	m := begun(t, called("push 2; store 0; push 9; show; input; return"))
	m.Run(1000)
	isText(t, "all it tells", told(m), "trapped 4 0, 12 steps, 0 taken, frames "+ahead+"4(0x0p+0)[]0, vars (2), trace (9)")
}

// Code that is right may take values from below an open try, and put others there: what the stack had when the try was opened comes back.
func TestWhatTheStackHad(t *testing.T) {
	walksSo(t, "taken", begun(t, just("push 5; try 5; drop; input; return; bin -; return")),
		"0@0()[]0", "0@1()[5]0", "0@2()[5]1", "0@3()[]1", "0@5()[5 -4]0", "0@6()[9]0", "halted 9")
	walksSo(t, "taken, and others of other types put", begun(t, just("push 5; push 1.5; try 9; drop; drop; push true; push false; input; return; show; drop; return")),
		"0@0()[]0", "0@1()[5]0", "0@2()[5 0x1.8p+0]0", "0@3()[5 0x1.8p+0]1", "0@4()[5]1", "0@5()[]1", "0@6()[true]1", "0@7()[true false]1", "0@9()[5 0x1.8p+0 -4]0 shows -4", "0@10()[5 0x1.8p+0]0", "0@11()[5]0", "halted 5")
	walksSo(t, "another one of the same type put", begun(t, just("push 5; try 8; push 1; bin +; push 1; push 0; bin /; return; drop; return")),
		"0@0()[]0", "0@1()[5]0", "0@2()[5]1", "0@3()[5 1]1", "0@4()[6]1", "0@5()[6 1]1", "0@6()[6 1 0]1", "0@8()[5 -2]0", "0@9()[5]0", "halted 5")
	walksSo(t, "as an argument", begun(t, img(fn(":i", "", "push 5; try 4; call 1; return; drop; return"), fn("i:i", "", "get 0; fail"))),
		"0@0()[]0", "0@1()[5]0", "0@2()[5]1", "0@3()[]1 1@0(5)[]0", "0@3()[]1 1@1(5)[5]0", "0@4()[5 5]0", "0@5()[5]0", "halted 5")
	walksSo(t, "by two tries", begun(t, just("push 5; try 9; push 1; bin +; try 8; drop; push 2; fail; fail; drop; return")),
		"0@0()[]0", "0@1()[5]0", "0@2()[5]1", "0@3()[5 1]1", "0@4()[6]1", "0@5()[6]2", "0@6()[]2", "0@7()[2]2", "0@8()[6 2]1", "0@9()[5 2]0", "0@10()[5]0", "halted 5")
}

// As many tries, and as great a stack, as there may be.
func TestTriesAtTheirLimits(t *testing.T) {
	var text strings.Builder
	for n := range 32 {
		fmt.Fprintf(&text, "try %d; push %d; ", 66+31-n, n)
	}
	text.WriteString("push 100; fail; ")
	text.WriteString(strings.Repeat("fail; ", 31) + "return")
	m := after(t, 64, just(text.String()))
	is(t, "how many", m.Frames()[0].Tries, 32)
	isText(t, "each catches it", runTold(m.Run(100)), "() halted 100 0")
	is(t, "Steps", m.Steps(), 64+2+31+1)
	great := append(times(511, asm("push 3")[0]), asm("try 514; input; fail; fail")...)
	m = after(t, 513, img(code.Fn{Sig: code.Sig{Result: 1}, Code: great}))
	isText(t, "the greatest stack", framesTold(m.Frames()), "0@514()["+strings.Repeat("3 ", 511)+"-4]0")
	isText(t, "Run", runTold(m.Run(9)), "() trapped 6 -4 0")
}
