package code_test

import (
	"fmt"
	"math"
	"slices"
	"strings"
	"testing"

	"foundry/api"
	"foundry/code"
)

func TestExamplesOfVerify(t *testing.T) {
	none := code.Frame{}
	verifies(t, "(int) int", fn("i:i", "", "get 0; return"), none, 0, api.OK)
	verifies(t, "() int", fn(":i", "", "return"), none, 0, api.ErrCode)
	verifies(t, "(): push, jump", fn("", "", "push 1; jump 0"), none, 1, api.ErrType)
	tries := fn("", "", "try 3; untry; return; drop; return")
	verifies(t, "(): try", tries, none, 0, api.OK)
	shapeIs(t, tries, none, 3, "i", 0)
	verifies(t, "(): unless", fn("", "", "push true; unless 3; push 1; return"), none, 2, api.ErrType)
}

// F14.3: each instruction with what it needs, with one value fewer, with a value of another type

// The program that the tests stand in.
func someFrame() code.Frame {
	return frame("ifb:i fi i: :b bb:f", "ifb")
}

// pushes: instructions that put values of these types.
func pushes(letters string) []code.Ins {
	var l []code.Ins
	for _, t := range typesOf(letters) {
		l = append(l, push([]api.Value{1: num(1), 2: float(1), 3: truth(true)}[t]))
	}
	return l
}

// need: an instruction, what it takes, what it puts; the locals are int, float, bool.
type need struct {
	text, takes, puts string
}

func needs() []need {
	l := []need{
		{"push 1", "", "i"}, {"push 1.5", "", "f"}, {"push true", "", "b"}, {"input", "", "i"},
		{"get 0", "", "i"}, {"get 1", "", "f"}, {"get 2", "", "b"}, {"put 0", "i", ""}, {"put 1", "f", ""}, {"put 2", "b", ""},
		{"load 0", "", "i"}, {"load 1", "", "f"}, {"load 2", "", "b"}, {"store 0", "i", ""}, {"store 1", "f", ""}, {"store 2", "b", ""},
		{"un neg", "i", "i"}, {"un neg", "f", "f"}, {"un not", "b", "b"}, {"un int", "f", "i"}, {"un float", "i", "f"},
		{"bin %", "ii", "i"}, {"call 0", "ifb", "i"}, {"call 1", "fi", ""}, {"call 2", "i", ""}, {"call 3", "", "b"}, {"call 4", "bb", "f"},
	}
	for _, o := range []string{"+", "-", "*", "/"} {
		l = append(l, need{"bin " + o, "ii", "i"}, need{"bin " + o, "ff", "f"})
	}
	for _, o := range []string{"==", "!="} {
		l = append(l, need{"bin " + o, "ii", "b"}, need{"bin " + o, "ff", "b"}, need{"bin " + o, "bb", "b"})
	}
	for _, o := range []string{"<", "<=", ">", ">="} {
		l = append(l, need{"bin " + o, "ii", "b"}, need{"bin " + o, "ff", "b"})
	}
	for _, o := range []string{"i", "f", "b"} {
		l = append(l, need{"show", o, ""}, need{"drop", o, ""})
	}
	return l
}

// with: may the instruction stand with this on top of the stack, and what does it put then? By the list of needs.
func (n need) with(letters string) (string, bool) {
	for _, other := range needs() {
		if other.text == n.text && strings.HasSuffix(letters, other.takes) {
			return strings.TrimSuffix(letters, other.takes) + other.puts, true
		}
	}
	return "", false
}

func TestNeedsOfEachInstruction(t *testing.T) {
	p := someFrame()
	for _, n := range needs() {
		for _, below := range []string{"", "i", "f", "b", "bfi"} {
			f := fnOf("", "ifb", cat(pushes(below), pushes(n.takes), asm(n.text+"; return")))
			last := len(f.Code) - 1
			verifies(t, n.text, f, p, 0, api.OK)
			shapeIs(t, f, p, last, below+n.puts, 0)
			shapeIs(t, f, p, last-1, below+n.takes, 0)
		}
	}
}

func TestEachInstructionWithEachStack(t *testing.T) {
	p := someFrame()
	stacks := []string{""}
	for range 3 {
		for _, s := range slices.Clone(stacks) {
			for _, one := range []string{"i", "f", "b"} {
				stacks = append(stacks, one+s)
			}
		}
	}
	slices.Sort(stacks)
	stacks = slices.Compact(stacks)
	is(t, "stacks", len(stacks), 1+3+9+27)
	for _, n := range needs() {
		for _, s := range stacks {
			f := fnOf("", "ifb", cat(pushes(s), asm(n.text+"; return")))
			behind, fits := n.with(s)
			if !fits {
				verifies(t, n.text+" on "+s, f, p, len(s), api.ErrCode)
				noShapeAt(t, f, p, 0)
				continue
			}
			verifies(t, n.text+" on "+s, f, p, 0, api.OK)
			shapeIs(t, f, p, len(s)+1, behind, 0)
		}
	}
}

func TestNeedsOfTheOthers(t *testing.T) {
	p := someFrame()
	for _, c := range []struct {
		signature, text string
		at              int
		e               api.Errno
	}{
		{"", "push true; unless 2; return", 0, api.OK},
		{"", "unless 1; return", 0, api.ErrCode},
		{"", "push 1; unless 2; return", 1, api.ErrCode},
		{"", "push 1.0; unless 2; return", 1, api.ErrCode},
		{"", "push true; push 1; unless 3; return", 2, api.ErrCode},
		{"", "push 1; fail", 0, api.OK},
		{"", "fail", 0, api.ErrCode},
		{"", "push true; fail", 1, api.ErrCode},
		{"", "push 1.0; fail", 1, api.ErrCode},
		{"", "push 1; push true; fail", 2, api.ErrCode},
		{"", "push true; push 1; fail", 0, api.OK},
		{"", "return", 0, api.OK},
		{"", "push 1; push true; return", 0, api.OK},
		{":i", "push 1; return", 0, api.OK},
		{":i", "push 1; push true; return", 2, api.ErrCode},
		{":i", "push true; push 1; return", 0, api.OK},
		{":i", "push 1; push 1; return", 0, api.OK},
		{":b", "push 1; return", 1, api.ErrCode},
		{":b", "push true; return", 0, api.OK},
		{":f", "push 1; return", 1, api.ErrCode},
		{":f", "push 1.0; return", 0, api.OK},
		{":f", "push 1; fail", 0, api.OK},
		{":f", "jump 0", 0, api.OK},
		{"", "untry; return", 0, api.ErrCode},
		{"", "push 1; untry; return", 1, api.ErrCode},
		{"", "try 4; untry; untry; return; drop; return", 2, api.ErrCode},
		{"", "try 6; try 6; untry; untry; untry; return; drop; return", 1, api.ErrType},
		{"", "try 8; try 7; untry; untry; untry; return; return; drop; jump 5", 4, api.ErrCode},
		{"", "try 2; jump 1; drop; return", 0, api.OK},
		{"", "try 1; return", 0, api.ErrType},
		{"", "try 3; return; return; return", 0, api.OK},
		{"", "push 1; try 4; drop; return; drop; drop; return", 0, api.OK},
		{"", "push 1; try 4; drop; return; drop; drop; drop; return", 6, api.ErrCode},
		{":i", "try 2; jump 1; return", 0, api.OK},
		{":b", "try 2; jump 1; return", 2, api.ErrCode},
	} {
		verifies(t, c.signature+" "+c.text, fn(c.signature, "", c.text), p, c.at, c.e)
	}
}

// What is named has to be there

func TestWhatIsNotThere(t *testing.T) {
	p := someFrame()
	for _, c := range []struct {
		text, stack string
		count       int // of what N numbers
	}{
		{"get", "", 3}, {"put", "i", 3}, {"load", "", 3}, {"store", "i", 3}, {"call", "ifb", 5}, {"jump", "", 6}, {"unless", "b", 6}, {"try", "", 6},
	} {
		for _, n := range []int{c.count, c.count + 1, 255, 256, 4096, 65535} {
			if n > 255 && len(c.text) == 3 && c.text != "try" {
				continue
			}
			l := cat(asm("jump 1"), pushes(c.stack), asm(fmt.Sprint(c.text, " ", n)))
			f := fnOf("", "ifb", cat(l, many(6-len(l), "return")))
			is(t, "instructions", len(f.Code), 6)
			verifies(t, fmt.Sprint(c.text, " ", n), f, p, len(l)-1, api.ErrCode)
		}
	}
	for _, text := range []string{"get 0; return", "load 0; return", "call 0; return", "push 1; put 0; return", "push 1; store 0; return"} {
		f := fn("", "", text)
		_, e := code.Verify(f, code.Frame{})
		is(t, text, e, api.ErrCode)
	}
	// The last one of each list is there.
	verifies(t, "the last local", fnOf("", strings.Repeat("i", 64), asm("get 63; return")), p, 0, api.OK)
	verifies(t, "behind the last local", fnOf("", strings.Repeat("i", 64), asm("get 64; return")), p, 0, api.ErrCode)
	big := code.Frame{Vars: slices.Repeat([]int{api.TInt}, 65536), Fns: make([]code.Sig, 65536)}
	verifies(t, "the last variable and function", fn("", "", "load 65535; drop; call 65535; return"), big, 0, api.OK)
	big.Vars, big.Fns = append(big.Vars, 1, 1), append(big.Fns, code.Sig{}, code.Sig{})
	verifies(t, "more variables and functions than can be named", fn("", "", "load 65535; drop; call 65535; return"), big, 0, api.OK)
	verifies(t, "one variable fewer", fn("", "", "load 65535; drop; return"), code.Frame{Vars: big.Vars[:65535]}, 0, api.ErrCode)
}

func TestCodeThatLeadsBehindTheLastInstruction(t *testing.T) {
	p := someFrame()
	for _, c := range needs() {
		f := fnOf("", "ifb", cat(pushes(c.takes), asm(c.text)))
		verifies(t, c.text+" as the last one", f, p, len(f.Code)-1, api.ErrCode)
	}
	for _, c := range []struct {
		text string
		at   int
	}{
		{"push true; unless 0", 1}, {"push true; unless 1", 1}, {"try 0", 0}, {"try 2; untry", 0}, {"jump 1; try 0", 1}, {"push true; unless 3; return; input", 3},
		{"try 3; return; return; drop", 3}, {"try 4; jump 2; untry; jump 5; return", 3}, {"jump 1", 0}, {"jump 65535", 0}, {"push true; unless 3; return", 1},
	} {
		verifies(t, c.text, fn("", "", c.text), p, c.at, api.ErrCode)
	}
}

// The order of errors: sizes, then the outline, then the least instruction that is not right, then what is gone through

func TestSizes(t *testing.T) {
	none := code.Frame{}
	p8, p9 := slices.Repeat([]int{1}, 8), slices.Repeat([]int{1}, 9)
	l64, l65 := slices.Repeat([]int{1}, 64), slices.Repeat([]int{1}, 65)
	full := append(many(code.MaxCode-1, "jump 0"), asm("return")...)
	for _, c := range []struct {
		what string
		f    code.Fn
		e    api.Errno
	}{
		{"8 Params", code.Fn{Sig: code.Sig{Params: p8}, Locals: p8, Code: asm("return")}, api.OK},
		{"9 Params", code.Fn{Sig: code.Sig{Params: p9}, Locals: p9, Code: asm("return")}, api.ErrBig},
		{"64 Locals", code.Fn{Locals: l64, Code: asm("return")}, api.OK},
		{"65 Locals", code.Fn{Locals: l65, Code: asm("return")}, api.ErrBig},
		{"MaxCode instructions", code.Fn{Code: full}, api.OK},
		{"one more", code.Fn{Code: append(slices.Clone(full), asm("return")...)}, api.ErrBig},
		{"9 Params of no type, no instruction", code.Fn{Sig: code.Sig{Params: make([]int, 9), Result: 9}}, api.ErrBig},
		{"65 Locals of no type, no instruction", code.Fn{Sig: code.Sig{Result: 9}, Locals: make([]int, 65)}, api.ErrBig},
		{"one instruction more, the first not right, Locals wrong", code.Fn{Locals: []int{9}, Code: make([]code.Ins, code.MaxCode+1)}, api.ErrBig},
		{"many of all", code.Fn{Sig: code.Sig{Params: make([]int, 900), Result: -1}, Locals: make([]int, 6500), Code: make([]code.Ins, 3*code.MaxCode)}, api.ErrBig},
	} {
		verifies(t, c.what, c.f, none, 0, c.e)
	}
	// A program's own sizes are not asked for.
	wide := code.Frame{Fns: []code.Sig{{Params: p9}, {Params: slices.Repeat([]int{1}, 1000)}}}
	verifies(t, "a function with 9 Params is called", fnOf("", "", cat(many(9, "push 1"), asm("call 0; return"))), wide, 0, api.OK)
	verifies(t, "one with more than a stack has", fnOf("", "", cat(many(512, "push 1"), asm("call 1; return"))), wide, 512, api.ErrCode)
}

func TestOutline(t *testing.T) {
	ret := asm("return")
	strange := []int{-1, 4, 257, 1 << 32, 1<<32 + 1, math.MinInt, math.MaxInt}
	bad := func(what string, f code.Fn, p code.Frame) {
		t.Helper()
		verifies(t, what, f, p, 0, api.ErrCode)
		// It stands ahead of an instruction that is not right.
		f.Code = append(slices.Clone(f.Code), code.Ins{Op: 99})
		verifies(t, what+", and a wrong instruction", f, p, 0, api.ErrCode)
	}
	good := func(what string, f code.Fn, p code.Frame) {
		t.Helper()
		verifies(t, what, f, p, 0, api.OK)
		f.Code = append(slices.Clone(f.Code), code.Ins{Op: 99})
		verifies(t, what+", and a wrong instruction", f, p, len(f.Code)-1, api.ErrCode)
	}
	verifies(t, "no instruction", code.Fn{}, code.Frame{}, 0, api.ErrCode)
	verifies(t, "no instruction, an empty list", code.Fn{Code: []code.Ins{}}, code.Frame{}, 0, api.ErrCode)
	for result := range 4 {
		f := code.Fn{Sig: code.Sig{Result: result}, Code: asm("jump 0")}
		good(fmt.Sprint("Result ", result), f, code.Frame{})
		good(fmt.Sprint("a program's Result ", result), code.Fn{Code: ret}, code.Frame{Fns: []code.Sig{{Result: result}}})
	}
	for _, v := range append([]int{0}, strange...) {
		what := fmt.Sprint("the type ", v)
		bad(what+" of a local", code.Fn{Locals: []int{v}, Code: ret}, code.Frame{})
		bad(what+" of a later local", code.Fn{Locals: []int{1, 2, v, 3}, Code: ret}, code.Frame{})
		bad(what+" of a parameter", code.Fn{Sig: code.Sig{Params: []int{v}}, Locals: []int{v}, Code: ret}, code.Frame{})
		bad(what+" of a variable", code.Fn{Code: ret}, code.Frame{Vars: []int{1, v}})
		bad(what+" of a program's parameter", code.Fn{Code: ret}, code.Frame{Fns: []code.Sig{{}, {Params: []int{2, v}}}})
	}
	for _, v := range strange {
		what := fmt.Sprint("the type ", v)
		bad(what+" of the result", code.Fn{Sig: code.Sig{Result: v}, Code: ret}, code.Frame{})
		bad(what+" of a program's result", code.Fn{Code: ret}, code.Frame{Fns: []code.Sig{{}, {Result: v}}})
	}
	params := code.Sig{Params: []int{1, 2, 3}}
	good("Locals are the Params", code.Fn{Sig: params, Locals: []int{1, 2, 3}, Code: ret}, code.Frame{})
	good("Locals begin with the Params", code.Fn{Sig: params, Locals: []int{1, 2, 3, 3, 2}, Code: ret}, code.Frame{})
	for _, locals := range [][]int{nil, {1}, {1, 2}, {1, 2, 2}, {2, 2, 3}, {3, 2, 1}, {1, 1, 2, 3}, {1, 3, 2, 1, 2, 3}} {
		bad(fmt.Sprint("Locals ", locals), code.Fn{Sig: params, Locals: locals, Code: ret}, code.Frame{})
	}
	// What is in a list's spare room is not in it.
	bad("a parameter in the spare room", code.Fn{Sig: params, Locals: []int{1, 2, 3}[:2], Code: ret}, code.Frame{})
}

func TestTheLeastInstructionThatIsNotRight(t *testing.T) {
	p := someFrame()
	right := asm("push 1; drop; input; show; return")
	for _, wrong := range wrongIns() {
		for at := range right {
			f := fnOf("", "", slices.Clone(right))
			f.Code[at] = wrong
			verifies(t, fmt.Sprintf("%+v at %d", wrong, at), f, p, at, api.ErrCode)
			f.Code[len(right)-1] = wrong
			verifies(t, fmt.Sprintf("%+v at %d and behind", wrong, at), f, p, at, api.ErrCode)
		}
	}
	for _, c := range []struct {
		text string
		e    api.Errno
	}{
		{"drop; return", api.ErrCode}, {"push 1; jump 0", api.ErrType}, {"jump 70", api.ErrCode},
	} {
		// It stands ahead of all that is gone through, wherever it is, come to or not.
		f := fnOf("", "", append(asm(c.text), code.Ins{Op: 2, N: 256}))
		verifies(t, c.text+" ahead of it", f, p, len(f.Code)-1, api.ErrCode)
	}
	full := many(code.MaxCode, "push 1")
	full[code.MaxCode-1] = code.Ins{Op: 7, N: 12}
	verifies(t, "ahead of a stack that is too high", fnOf("", "", full), p, code.MaxCode-1, api.ErrCode)
}

func TestTheOrderOfGoingThrough(t *testing.T) {
	p := someFrame()
	for _, c := range []struct {
		what, text string
		at         int
		e          api.Errno
	}{
		{"the least place first, though it was come to last", "jump 4; drop; return; return; push true; unless 1; drop; return", 1, api.ErrCode},
		{"the least place first", "jump 2; drop; push true; unless 1; drop; return", 1, api.ErrCode},
		{"a later place is gone through later", "push true; unless 4; drop; return; drop; return", 2, api.ErrCode},
		{"an earlier place ahead of the next one", "jump 3; push true; unless 5; push true; unless 1; fail; drop; return", 5, api.ErrCode},
		{"an unlike shape is noted where it is made", "jump 4; push 1; jump 3; return; push true; unless 1; jump 3", 6, api.ErrType},
		{"and the other way round", "jump 3; push 1; return; push true; unless 1; jump 2", 5, api.ErrType},
		{"an unlike shape at N alone", "push 1; push true; unless 0; return", 2, api.ErrType},
		{"a lack ahead of an unlike shape", "push 1; push 1; unless 0; return", 2, api.ErrCode},
		{"behind the last one ahead of an unlike shape", "push 1; push true; unless 0", 2, api.ErrCode},
		{"a place that is not there ahead of an unlike shape", "push 1; jump 3; jump 0", 1, api.ErrCode},
		{"try with an unlike shape at its N", "jump 1; push 1; try 1; return", 2, api.ErrType},
		{"try as the last one, with an unlike shape at its N", "jump 1; push 1; try 1", 2, api.ErrCode},
	} {
		verifies(t, c.what, fn("", "", c.text), p, c.at, c.e)
	}
}

// Two ways to one place

func TestTwoWaysToOnePlace(t *testing.T) {
	p := someFrame()
	for _, c := range []struct {
		what, text string
		at         int
		e          api.Errno
	}{
		{"like stacks", "push true; unless 4; push 1; jump 5; push 2; show; return", 0, api.OK},
		{"values of unlike types", "push true; unless 4; push 1; jump 5; push 2.0; show; return", 4, api.ErrType},
		{"one value more", "push true; unless 4; push 1; jump 6; push 2; push 2; show; return", 5, api.ErrType},
		{"like stacks in another order", "push true; unless 5; push 1; push true; jump 7; push true; push 1; show; return", 6, api.ErrType},
		{"an open try and none", "push true; unless 3; try 5; push 1; return; drop; return", 2, api.ErrType},
		{"a loop that leaves a value", "push true; push 1; drop; unless 6; input; jump 0; return", 5, api.ErrType},
		{"a loop that leaves nothing", "push true; unless 5; input; drop; jump 0; return", 0, api.OK},
		{"a loop that takes one away", "push 1; push 1; drop; jump 1", 0, api.OK},
		{"a loop that takes too many", "push 1; push 1; drop; drop; jump 1", 4, api.ErrType},
		{"a loop that opens tries", "try 2; jump 0; drop; return", 1, api.ErrType},
		{"a loop that opens and closes", "try 3; untry; jump 0; drop; jump 0", 0, api.OK},
		{"tries with one N, of like stacks", "push true; unless 4; try 7; jump 5; try 7; untry; return; drop; return", 0, api.OK},
		{"tries with unlike N", "push true; unless 4; try 7; jump 5; try 8; untry; return; fail; fail", 4, api.ErrType},
		{"the same stack, the try's stack another one", "push true; unless 6; push 1; try 10; drop; jump 7; try 11; untry; return; return; fail; fail", 6, api.ErrType},
		{"the same N and stack, the try had another stack", "push true; unless 5; push 1; try 8; jump 6; try 8; drop; return; fail", 5, api.ErrType},
		{"a try that was closed leaves nothing", "push true; unless 5; try 7; untry; jump 6; jump 6; return; drop; return", 0, api.OK},
		{"to one place from try and from a jump", "try 3; untry; push 1; show; return", 0, api.OK},
		{"to one place from try and from a jump, of another type", "try 3; untry; push true; show; return", 2, api.ErrType},
		{"to one place from try and from within it", "try 2; push 1; show; return", 1, api.ErrType},
		{"unless onto the next one", "push true; unless 2; return", 0, api.OK},
		{"try onto the next one", "try 1; return", 0, api.ErrType},
	} {
		verifies(t, c.what, fn("", "", c.text), p, c.at, c.e)
	}
}

func TestTriesThatDifferInTheirStacksAlone(t *testing.T) {
	// Both ways come to 8 with the stack (int) and one open try; but it was opened ahead of the int in one, behind it in the other.
	text := "push true; unless 5; try 10; push 1; jump 8; push 1; try %d; jump 8; untry; return; fail; fail"
	verifies(t, "unlike N", fn("", "", fmt.Sprintf(text, 11)), code.Frame{}, 7, api.ErrType)
	// With one N it shows at that N already.
	verifies(t, "one N", fn("", "", fmt.Sprintf(text, 10)), code.Frame{}, 6, api.ErrType)
}

// Jumps

func TestJumps(t *testing.T) {
	for _, c := range []struct {
		what, signature, text string
		at                    int
		e                     api.Errno
	}{
		{"to itself", "", "jump 0", 0, api.OK},
		{"to itself, behind a value", "", "push 1; jump 1", 0, api.OK},
		{"to itself, with a result that never comes", ":b", "jump 0", 0, api.OK},
		{"unless to itself", "", "push true; unless 1; return", 1, api.ErrType},
		{"try to itself", "", "try 0; return", 0, api.ErrType},
		{"backwards", "", "jump 2; return; jump 1", 0, api.OK},
		{"backwards onto what was gone through", "", "input; drop; jump 0", 0, api.OK},
		{"onto the last instruction", "", "jump 2; return; return", 0, api.OK},
		{"behind the last instruction", "", "jump 3; return; return", 0, api.ErrCode},
		{"unless onto the last instruction", "", "push true; unless 3; return; return", 0, api.OK},
		{"unless behind the last instruction", "", "push true; unless 4; return; return", 1, api.ErrCode},
		{"try onto the last instruction", "", "try 2; return; return", 0, api.OK},
		{"try behind the last instruction", "", "try 3; return; return", 0, api.ErrCode},
		{"over what is wrong", "", "jump 2; drop; return", 0, api.OK},
		{"out of an open try", "", "try 3; jump 2; return; fail", 0, api.OK},
		{"a long ring", "", "jump 3; jump 4; jump 1; jump 2; jump 0", 0, api.OK},
	} {
		verifies(t, c.what, fn(c.signature, "", c.text), code.Frame{}, c.at, c.e)
	}
}

// Limits of stacks and tries

func TestHighStacks(t *testing.T) {
	p := frame(":i i:i iii ii:i :", "i")
	full := many(code.MaxStack, "push 1")
	for _, c := range []struct {
		what   string
		behind string
		at     int
		e      api.Errno
	}{
		{"MaxStack values", "return", 0, api.OK},
		{"one more by push", "push 1; return", 512, api.ErrBig},
		{"one more by push true", "push true; return", 512, api.ErrBig},
		{"one more by get", "get 0; return", 512, api.ErrBig},
		{"one more by load", "load 0; return", 512, api.ErrBig},
		{"one more by input", "input; return", 512, api.ErrBig},
		{"one more by call", "call 0; return", 512, api.ErrBig},
		{"a call that takes what it puts", "call 1; return", 0, api.OK},
		{"a call that takes more than it puts", "call 3; return", 0, api.OK},
		{"a call that takes", "call 2; push 1; push 1; push 1; push 1; return", 516, api.ErrBig},
		{"a call of nothing", "call 4; return", 0, api.OK},
		{"un", "un neg; return", 0, api.OK},
		{"bin", "bin +; push 1; return", 0, api.OK},
		{"bin, and two more", "bin +; push 1; push 1; return", 514, api.ErrBig},
		{"a jump", "jump 513; return", 0, api.OK},
		{"one more as the last one", "push 1", 512, api.ErrCode},
		{"one more of a local that is not there", "get 1; return", 512, api.ErrCode},
		{"try, whose N has one more", "try 514; return; return", 512, api.ErrBig},
		{"try, whose N is not there", "try 700; return; return", 512, api.ErrCode},
		{"try as the last one", "try 0", 512, api.ErrCode},
		{"try onto the next one", "try 513; return", 512, api.ErrBig},
		{"one more into a place with another shape", "drop; push 1; drop; jump 0; return", 515, api.ErrType},
		{"try with one value fewer", "drop; try 515; return; return", 0, api.OK},
		{"try with one value fewer, and one more at its N", "drop; try 515; return; push 1; return", 515, api.ErrBig},
		{"try with one value fewer, and one more behind it", "drop; try 517; push 1; push 1; return; return", 515, api.ErrBig},
	} {
		f := fnOf("", "i", cat(full, asm(c.behind)))
		verifies(t, c.what, f, p, c.at, c.e)
	}
	f := fnOf("", "", cat(many(code.MaxStack-1, "push 1"), asm("push true; return")))
	shapeIs(t, f, p, code.MaxStack, strings.Repeat("i", code.MaxStack-1)+"b", 0)
	shapeIs(t, f, p, code.MaxStack-1, strings.Repeat("i", code.MaxStack-1), 0)
}

func TestManyTries(t *testing.T) {
	// opens: n tries, each with an end of its own, then the code; the ends stand last, of which each drops the trap's number and returns.
	opens := func(n int, text string) code.Fn {
		middle := asm(text)
		var l []code.Ins
		for at := range n {
			l = append(l, code.Ins{Op: 15, N: n + len(middle) + at})
		}
		return fnOf("", "", cat(l, middle, many(n, "fail")))
	}
	none := code.Frame{}
	f := opens(code.MaxTries, "return")
	verifies(t, "MaxTries", f, none, 0, api.OK)
	shapeIs(t, f, none, code.MaxTries, "", code.MaxTries)
	shapeIs(t, f, none, code.MaxTries-1, "", code.MaxTries-1)
	shapeIs(t, f, none, code.MaxTries+1, "i", 0)
	shapeIs(t, f, none, code.MaxTries+2, "i", 1)
	shapeIs(t, f, none, 2*code.MaxTries, "i", code.MaxTries-1)
	verifies(t, "one more", opens(code.MaxTries+1, "return"), none, code.MaxTries, api.ErrBig)
	verifies(t, "many more", opens(200, "return"), none, code.MaxTries, api.ErrBig)
	verifies(t, "one more whose N is not there", opens(code.MaxTries, "try 4000; return"), none, code.MaxTries, api.ErrCode)
	verifies(t, "one more as the last one", fnOf("", "", cat(asm("jump 2; fail"), many(code.MaxTries+1, "try 1"))), none, 3, api.ErrType)
	verifies(t, "one more onto itself", opens(code.MaxTries, "try 32; return"), none, code.MaxTries, api.ErrBig)
	verifies(t, "one closed, one opened", opens(code.MaxTries, "untry; try 35; return; fail"), none, 0, api.OK)
	verifies(t, "one closed, two opened", opens(code.MaxTries, "untry; try 36; try 37; return; fail; fail"), none, code.MaxTries+2, api.ErrBig)
	all := opens(code.MaxTries, strings.Repeat("untry; ", code.MaxTries)+"return")
	verifies(t, "all closed", all, none, 0, api.OK)
	shapeIs(t, all, none, 2*code.MaxTries, "", 0)
	verifies(t, "one more closed", opens(code.MaxTries, strings.Repeat("untry; ", code.MaxTries+1)+"return"), none, 2*code.MaxTries, api.ErrCode)
}

func TestHighStacksAndManyTries(t *testing.T) {
	var l []code.Ins
	for at := range code.MaxTries {
		l = append(l, cat(many(15, "push 1"), []code.Ins{{Op: 15, N: 1000 + at}})...)
	}
	l = append(l, many(32, "push 1")...)
	back := len(l)
	l = append(l, asm(fmt.Sprint("jump ", back))...)
	l = append(l, many(1032-len(l), "fail")...)
	f := fnOf("", "", l)
	verifies(t, "both at the limit", f, code.Frame{}, 0, api.OK)
	shapeIs(t, f, code.Frame{}, back, strings.Repeat("i", 512), 32)
	shapeIs(t, f, code.Frame{}, 1031, strings.Repeat("i", 481), 31)
}

// P1403: instructions that are never come to

func TestInstructionsThatAreNeverComeTo(t *testing.T) {
	p := someFrame()
	for _, c := range []string{"jump 2; %; return", "return; %", "push 1; fail; %", "try 3; return; %; fail", "jump 0; %"} {
		at := slices.Index(strings.Split(c, "; "), "%")
		for _, i := range rightIns() {
			f := fn("", "", strings.ReplaceAll(c, "%", "drop"))
			f.Code[at] = i
			verifies(t, c+" with "+code.Text(i), f, p, 0, api.OK)
			noShapeAt(t, f, p, at)
		}
		for _, i := range wrongIns() {
			f := fn("", "", strings.ReplaceAll(c, "%", "drop"))
			f.Code[at] = i
			verifies(t, fmt.Sprintf("%s with %+v", c, i), f, p, at, api.ErrCode)
			noShapeAt(t, f, p, 0)
		}
	}
}
