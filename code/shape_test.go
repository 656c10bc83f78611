package code_test

import (
	"math"
	"testing"

	"foundry/api"
	"foundry/code"
)

// F14.3: Shape

func TestShapeAtEachPlace(t *testing.T) {
	p := someFrame()
	f := fn("i:b", "f", "get 0; push 0; bin >; unless 12; try 11; load 1; put 1; get 1; call 1; untry; jump 12; jump 15; push true; return; drop; show; jump 12")
	verifies(t, "a call without its last argument", f, p, 8, api.ErrCode)
	f = fn("i:b", "f", "get 0; push 0; bin >; unless 12; try 11; load 1; put 1; get 1; get 0; call 1; untry; jump 13; jump 12; push true; return; return")
	verifies(t, "what is come to with unlike shapes", f, p, 10, api.ErrType)
	f = fn("i:b", "f", "get 0; push 0; bin >; unless 13; try 12; load 1; put 1; get 1; get 0; call 1; untry; jump 13; show; push true; return; drop")
	verifies(t, "what goes well", f, p, 0, api.OK)
	for at, want := range []struct {
		stack string
		tries int
	}{
		{"", 0}, {"i", 0}, {"ii", 0}, {"b", 0}, {"", 0}, {"", 1}, {"f", 1}, {"", 1}, {"f", 1}, {"fi", 1}, {"", 1}, {"", 0}, {"i", 0}, {"", 0}, {"b", 0},
	} {
		shapeIs(t, f, p, at, want.stack, want.tries)
	}
	for _, at := range []int{15, 16, 17, 4096, -1, math.MinInt, math.MaxInt} {
		noShapeAt(t, f, p, at)
	}
}

func TestShapeOfTries(t *testing.T) {
	none := code.Frame{}
	f := fn("", "", "push true; try 5; push 1; try 7; jump 4; drop; return; fail")
	verifies(t, "tries in one another", f, none, 0, api.OK)
	for at, want := range []struct {
		stack string
		tries int
	}{
		{"", 0}, {"b", 0}, {"b", 1}, {"bi", 1}, {"bi", 2}, {"bi", 0}, {"b", 0}, {"bii", 1},
	} {
		shapeIs(t, f, none, at, want.stack, want.tries)
	}
	// What is taken from below the stack that the try had is there once more at its N.
	f = fn("", "", "push true; try 4; drop; jump 3; fail")
	verifies(t, "a stack that is lower than the try's", f, none, 0, api.OK)
	shapeIs(t, f, none, 3, "", 1)
	shapeIs(t, f, none, 4, "bi", 0)
	f = fn("", "", "push true; try 6; drop; push 1.5; untry; return; fail")
	verifies(t, "another value where the try's stack was", f, none, 0, api.OK)
	shapeIs(t, f, none, 4, "f", 1)
	shapeIs(t, f, none, 5, "f", 0)
	shapeIs(t, f, none, 6, "bi", 0)
}

func TestShapeOfAFunctionThatIsNotRight(t *testing.T) {
	for _, c := range []struct {
		f code.Fn
		p code.Frame
	}{
		{code.Fn{}, code.Frame{}},
		{fn(":i", "", "return"), code.Frame{}},
		{fn("", "", "push 1; push true; jump 0"), code.Frame{}},
		{fn("", "", "push 1; push 1; push 1"), code.Frame{}},
		{fn("", "", "push 1; return"), code.Frame{Vars: []int{0}}},
		{fn("", "", "push 1; return"), code.Frame{Fns: []code.Sig{{Result: 4}}}},
		{fn("n", "", "push 1; return"), code.Frame{}},
		{fnOf("", "", append(asm("push 1; return"), code.Ins{})), code.Frame{}},
		{fnOf("", "", many(code.MaxStack+1, "push 1")), code.Frame{}},
		{fnOf("", "", many(code.MaxCode+1, "return")), code.Frame{}},
	} {
		for _, at := range []int{0, 1, 2, 3, -1, math.MinInt, math.MaxInt} {
			noShapeAt(t, c.f, c.p, at)
		}
	}
	f := fnOf("", "", many(code.MaxCode, "return"))
	shapeIs(t, f, code.Frame{}, 0, "", 0)
	noShapeAt(t, f, code.Frame{}, 1)
	noShapeAt(t, f, code.Frame{}, code.MaxCode-1)
	noShapeAt(t, f, code.Frame{}, code.MaxCode)
}
