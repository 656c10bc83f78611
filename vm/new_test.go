package vm_test

import (
	"fmt"
	"math"
	"testing"

	"foundry/api"
	"foundry/code"
	"foundry/floats"
	"foundry/image"
	"foundry/vm"
)

func five() code.Fn {
	return fn(":i", "", "push 5; return")
}

// newIs fails unless New answers the error, and a machine just where there is none.
func newIs(t *testing.T, what string, i image.Image, input []int64, want api.Errno) {
	t.Helper()
	m, e := vm.New(i, input)
	if e != want || (m == nil) != (want != api.OK) {
		t.Errorf("%s: New answers %d and a machine: %v, not %d", what, int(e), m != nil, int(want))
	}
}

// The chapter's examples.

func TestFirstExample(t *testing.T) {
	m := begun(t, just("push 5; show; push 7; return"))
	isText(t, "Run(2)", runTold(m.Run(2)), "(5) running 0")
	isText(t, "Run(10)", runTold(m.Run(10)), "() halted 7 0")
	is(t, "Steps", m.Steps(), 4)
}

func TestSecondExample(t *testing.T) {
	m := begun(t, just("push 1; push 0; bin /; return"))
	isText(t, "Run(10)", runTold(m.Run(10)), "() trapped 2 0 0")
	is(t, "Steps", m.Steps(), 3)
	isText(t, "Frames", framesTold(m.Frames()), "0@2()[1 0]0")
}

// P1901: a machine that has made no step.

func TestNew(t *testing.T) {
	isText(t, "of one function", told(begun(t, just("push 5; return"))), "running, 0 steps, 0 taken, frames 0@0()[]0, vars (), trace ()")
	i := withVars(from(2, img(fn("i:i", "", "get 0; return"), fn("", "b", "return"), fn(":i", "fib", "push 5; return"))), num(-3), float(1.5), truth(1))
	isText(t, "of three functions", told(begun(t, i, 8, 9)), "running, 0 steps, 0 taken, frames 2@0(0x0p+0 0 false)[]0, vars (-3 0x1.8p+0 true), trace ()")
}

func TestNewOfEachMain(t *testing.T) {
	fns := []code.Fn{fn(":i", "i", "push 0; return"), fn("", "", "return"), fn(":i", "b", "push 2; return"), fn(":i", "", "push 3; return")}
	for main, want := range map[int]string{0: "0@0(0)[]0", 2: "2@0(false)[]0", 3: "3@0()[]0"} {
		m := begun(t, from(main, img(fns...)))
		isText(t, "Frames", framesTold(m.Frames()), want)
		isText(t, "Run", runTold(m.Run(9)), fmt.Sprint("() halted ", main, " 0"))
	}
}

// edgeValues: values of each type, the edges too.
func edgeValues() []api.Value {
	l := []api.Value{truth(0), truth(1), {Type: api.TFloat, Bits: floats.NaN}}
	for _, n := range []int64{0, 1, -1, 2, 10, math.MinInt64, math.MaxInt64} {
		l = append(l, num(n))
	}
	for _, f := range []float64{0, math.Copysign(0, -1), 1, -1.5, 0.1, 1e300, math.MaxFloat64, math.SmallestNonzeroFloat64, math.Inf(1), math.Inf(-1)} {
		l = append(l, float(f))
	}
	return l
}

func TestVariablesAreAsTheImageHasThem(t *testing.T) {
	for _, v := range edgeValues() {
		m := begun(t, withVars(just("push 5; return"), v))
		isText(t, "Vars", valuesTold(m.Vars()), valuesTold([]api.Value{v}))
	}
	m := begun(t, withVars(just("push 5; return"), edgeValues()...))
	isText(t, "all of them", valuesTold(m.Vars()), valuesTold(edgeValues()))
	great := times(2048, truth(1))
	great[2047] = num(7)
	m = begun(t, withVars(just("load 2047; return"), great...))
	isText(t, "as many as there may be", valuesTold(m.Vars()), valuesTold(great))
	isText(t, "the last one", runTold(m.Run(9)), "() halted 7 0")
}

// P1901: locals behind the parameters.

func TestLocalsBeginAsZero(t *testing.T) {
	m := begun(t, img(fn(":i", "iffbbi", "get 0; return")))
	isText(t, "of Main", framesTold(m.Frames()), "0@0(0 0x0p+0 0x0p+0 false false 0)[]0")
	text := "push -1; put 0; push 2.5; put 1; push true; put 2; push 9; call 1; return"
	m = after(t, 8, img(fn(":i", "ifb", text), fn("i:i", "bfi", "get 3; return")))
	isText(t, "behind a parameter", framesTold(m.Frames()), "0@8(-1 0x1.4p+1 true)[]0 1@0(9 false 0x0p+0 0)[]0")
	m = after(t, 1, img(fn(":i", "", "call 1; return"), code.Fn{Sig: code.Sig{Result: 1}, Locals: times(64, 2), Code: asm("push 1; return")}))
	isText(t, "as many as there may be", framesTold(m.Frames()[1:]), "1@0("+valuesTold(times(64, float(0)))+")[]0")
}

// Locals of a call are its own: once more they are zero again.
func TestLocalsBeginAsZeroOnceMore(t *testing.T) {
	m := begun(t, img(fn(":i", "", "call 1; drop; call 1; return"), fn(":i", "i", "get 0; show; push 7; put 0; get 0; return")))
	isText(t, "Run", runTold(m.Run(100)), "(0 0) halted 7 0")
}

// P1901: the first error that applies.

// manyTries: a function that opens as many, each with a place of its own.
func manyTries(n int) code.Fn {
	f := code.Fn{Code: times(2*n+1, code.Ins{Op: 11})}
	for at := range n {
		f.Code[at] = code.Ins{Op: 15, N: 2*n - at}
	}
	return f
}

// wrongImages: of each kind of fault one at least, and the error of it.
func wrongImages() map[string]struct {
	i    image.Image
	want api.Errno
} {
	type row = struct {
		i    image.Image
		want api.Errno
	}
	second := func(f code.Fn) image.Image { return img(five(), f) }
	return map[string]row{
		"the zero image":                {image.Image{}, api.ErrImage},
		"too many variables":            {withVars(img(five()), times(2049, num(1))...), api.ErrBig},
		"too many functions":            {img(times(2049, five())...), api.ErrBig},
		"no value":                      {withVars(img(five()), api.Value{}), api.ErrImage},
		"a bool of 2":                   {withVars(img(five()), num(1), truth(2)), api.ErrImage},
		"another NaN":                   {withVars(img(five()), api.Value{Type: api.TFloat, Bits: math.MaxUint64}), api.ErrImage},
		"Main below 0":                  {from(-1, img(five())), api.ErrImage},
		"Main beyond the last one":      {from(1, img(five())), api.ErrImage},
		"Main with a parameter":         {img(fn("i:i", "", "push 5; return")), api.ErrImage},
		"Main with a float":             {img(fn(":f", "", "push 1.5; return")), api.ErrImage},
		"Main without a result":         {img(fn("", "", "return")), api.ErrImage},
		"nothing to return":             {just("return"), api.ErrCode},
		"no code":                       {second(fn("", "", "")), api.ErrCode},
		"no instruction":                {second(code.Fn{Code: []code.Ins{{Op: 18}}}), api.ErrCode},
		"no Op":                         {second(code.Fn{Code: []code.Ins{{}}}), api.ErrCode},
		"no such function":              {second(fn("", "", "call 2; return")), api.ErrCode},
		"no such variable":              {second(fn("", "", "load 0; return")), api.ErrCode},
		"no such local":                 {second(fn("i", "", "get 1; return")), api.ErrCode},
		"no such instruction":           {second(fn("", "", "jump 1")), api.ErrCode},
		"nothing on the stack":          {second(fn("", "", "drop; return")), api.ErrCode},
		"no open try":                   {second(fn("", "", "untry; return")), api.ErrCode},
		"an end without return":         {second(fn("", "", "push 1")), api.ErrCode},
		"two shapes":                    {second(fn("", "", "push 1; jump 0")), api.ErrType},
		"too much on the stack":         {second(code.Fn{Code: append(times(513, code.Ins{Op: 14}), code.Ins{Op: 11})}), api.ErrBig},
		"too many open tries":           {second(manyTries(33)), api.ErrBig},
		"too many parameters":           {second(fn("iiiiiiiii", "", "return")), api.ErrBig},
		"too many locals":               {second(code.Fn{Locals: times(65, 1), Code: asm("return")}), api.ErrBig},
		"too many instructions":         {second(code.Fn{Code: times(4097, code.Ins{Op: 11})}), api.ErrBig},
		"other locals than parameters":  {second(code.Fn{Sig: code.Sig{Params: []int{1}}, Locals: []int{2}, Code: asm("return")}), api.ErrCode},
		"a local of no type":            {second(code.Fn{Locals: []int{0}, Code: asm("return")}), api.ErrCode},
		"an error behind one of OK":     {img(five(), five(), fn("", "", "drop; return"), fn("", "", "push 1; jump 0")), api.ErrCode},
		"an error ahead of another one": {img(five(), five(), fn("", "", "push 1; jump 0"), fn("", "", "drop; return")), api.ErrType},
	}
}

func TestNewOfWhatIsNotRight(t *testing.T) {
	for what, c := range wrongImages() {
		newIs(t, what, c.i, nil, c.want)
		newIs(t, what+", MaxInput numbers", c.i, numbers(1024), c.want)
		// The image's error comes first.
		newIs(t, what+", and too many numbers", c.i, numbers(1025), c.want)
	}
	newIs(t, "as many open tries as there may be", img(five(), manyTries(32)), nil, api.OK)
}

func TestNewOfManyNumbers(t *testing.T) {
	i := just("input; return")
	newIs(t, "nil", i, nil, api.OK)
	newIs(t, "none", i, []int64{}, api.OK)
	newIs(t, "just MaxInput", i, numbers(api.MaxInput), api.OK)
	newIs(t, "one more", i, numbers(api.MaxInput+1), api.ErrBig)
	newIs(t, "many more", i, numbers(5000), api.ErrBig)
	newIs(t, "as many, with more in the spare room", i, numbers(3000)[:api.MaxInput], api.OK)
}

func TestNewIsRightsError(t *testing.T) {
	seen := map[api.Errno]int{}
	x := mixer(1901)
	for seed := range uint64(3000) {
		i := coded(seed)
		newIs(t, "a made one", i, nil, api.OK)
		for range x.below(3) {
			i = x.near(i)
		}
		want := image.Right(i)
		seen[want]++
		newIs(t, "a turned one", i, numbers(x.below(3)), want)
	}
	for _, e := range []api.Errno{api.OK, api.ErrImage, api.ErrCode, api.ErrType} {
		if seen[e] < 20 {
			t.Errorf("%d of %v", seen[e], e)
		}
	}
}

// Two machines of one image share nothing.
func TestTwoMachines(t *testing.T) {
	i := withVars(img(fn(":i", "i", "input; store 0; load 0; put 0; load 0; show; get 0; return")), num(1))
	a, b := begun(t, i, 5), begun(t, i, 6)
	ahead := told(b)
	isText(t, "the first one", runTold(a.Run(100)), "(5) halted 5 0")
	isText(t, "the second one", told(b), ahead)
	isText(t, "the second one, run", runTold(b.Run(100)), "(6) halted 6 0")
}
