package image_test

import (
	"fmt"
	"math"
	"slices"
	"testing"

	"foundry/api"
	"foundry/code"
	"foundry/image"
)

// The chapter's examples.

const exampleBytes = "66 69 6d 67 00000000 00000001 00 01 00 0000000b 01 01 0000000000000005 0b 00000000"

func TestExamples(t *testing.T) {
	i := img(five())
	rightIs(t, "the first example", i, api.OK)
	want := sealed(unhex(exampleBytes))
	is(t, "its bytes", packed(i), bytesTold(want, api.OK))
	is(t, "38 of them", len(want), 38)
	is(t, "and back", unpacked(want), imageTold(i, api.OK))
	rightIs(t, "return alone", img(fn(":i", "", "return")), api.ErrCode)
	rightIs(t, "Main 1", from(1, i), api.ErrImage)
}

// P1701: Right

func TestRight(t *testing.T) {
	for _, i := range rightImages() {
		rightIs(t, "a right one", i, api.OK)
	}
	seen := map[api.Errno]int{}
	for _, wrong := range wrongImages() {
		rightIs(t, wrong.what, wrong.i, wrong.code)
		seen[wrong.code]++
	}
	is(t, "errors", len(seen), 4)
}

func TestRightAtTheMostVarsAndFns(t *testing.T) {
	is(t, "the most", api.MaxModules*api.MaxItems, 2048)
	for _, c := range []struct {
		vars, fns int
		want      api.Errno
	}{
		{0, 1, api.OK}, {2047, 1, api.OK}, {2048, 1, api.OK}, {0, 2047, api.OK}, {0, 2048, api.OK}, {2048, 2048, api.OK},
		{2049, 1, api.ErrBig}, {0, 2049, api.ErrBig}, {2049, 2048, api.ErrBig}, {2048, 2049, api.ErrBig}, {2049, 2049, api.ErrBig}, {4096, 1, api.ErrBig}, {65536, 65536, api.ErrBig}, {2049, 0, api.ErrBig},
	} {
		i := withVars(img(times(c.fns, five())...), times(c.vars, float(1.5))...)
		rightIs(t, fmt.Sprint(c), i, c.want)
		if c.want != api.OK {
			continue
		}
		// What is there is there to the last one.
		last := copied(i)
		last.Fns = append(last.Fns[:c.fns-1], fn(":i", "", fmt.Sprint("call ", c.fns-1, "; return")))
		rightIs(t, fmt.Sprint(c, ": a call of the last one"), from(c.fns-1, last), api.OK)
		last.Fns[c.fns-1].Code[0].N++
		rightIs(t, fmt.Sprint(c, ": a call behind the last one"), from(c.fns-1, last), api.ErrCode)
		last.Fns[c.fns-1] = fn(":i", "", fmt.Sprint("load ", max(c.vars-1, 0), "; un 3; return"))
		rightIs(t, fmt.Sprint(c, ": a load of the last one"), last, map[bool]api.Errno{true: api.OK, false: api.ErrCode}[c.vars > 0])
		if c.vars > 0 {
			last.Vars[c.vars-1] = truth(2)
			rightIs(t, fmt.Sprint(c, ": the last variable is not right"), last, api.ErrImage)
		}
	}
}

func TestRightOfVars(t *testing.T) {
	for _, v := range rightValues() {
		rightIs(t, fmt.Sprint(v), withVars(img(five()), v), api.OK)
		rightIs(t, fmt.Sprint("behind others ", v), withVars(img(five()), num(1), truth(0), v), api.OK)
	}
	for _, v := range wrongValues() {
		rightIs(t, fmt.Sprint(v), withVars(img(five()), v), api.ErrImage)
		rightIs(t, fmt.Sprint("behind others ", v), withVars(img(five()), num(1), truth(0), v), api.ErrImage)
		rightIs(t, fmt.Sprint("ahead of others ", v), withVars(img(five()), v, num(1)), api.ErrImage)
	}
}

func TestRightOfMain(t *testing.T) {
	i := img(five(), fn("i:i", "", "get 0; return"), fn(":f", "", "push 1.5; return"), fn(":b", "", "push true; return"), fn("", "", "return"), fn("b", "", "return"), fn("ii:i", "", "get 0; return"), five())
	for main := -3; main < 12; main++ {
		want := api.ErrImage
		if main == 0 || main == 7 {
			want = api.OK
		}
		rightIs(t, fmt.Sprint("Main ", main), from(main, i), want)
	}
	for _, main := range []int{-256, 256, 65536, 1 << 31, 1 << 32, -1 << 32, math.MinInt, math.MaxInt, math.MinInt + 7} {
		rightIs(t, fmt.Sprint("Main ", main), from(main, i), api.ErrImage)
	}
	for _, of := range append(strangeTypes(), 0, 2, 3) {
		rightIs(t, fmt.Sprint("Main's result ", of), img(code.Fn{Sig: code.Sig{Result: of}, Code: asm("jump 0")}), api.ErrImage)
	}
	for _, of := range append(strangeTypes(), 0, 1, 2, 3) {
		f := code.Fn{Sig: code.Sig{Params: []int{of}, Result: 1}, Locals: []int{of}, Code: asm("jump 0")}
		rightIs(t, fmt.Sprint("Main's parameter ", of), img(f), api.ErrImage)
	}
	rightIs(t, "no function", image.Image{}, api.ErrImage)
	rightIs(t, "no function, and Main -1", image.Image{Main: -1}, api.ErrImage)
	empty := img(five())
	empty.Fns[0].Sig.Params = []int{}
	rightIs(t, "an empty list of Params", empty, api.OK)
}

// Signatures of all functions are held against one another.
func TestRightOfCalls(t *testing.T) {
	called := fn("if:b", "", "push true; return")
	for _, c := range []struct {
		text string
		want api.Errno
	}{
		{"push 1; push 1.5; call 1; drop; push 1; return", api.OK}, {"push 1; push 1.5; call 1; unless 6; push 1; drop; push 1; return", api.OK},
		{"push 1; push 1.5; call 1; return", api.ErrCode}, {"push 1.5; push 1; call 1; drop; push 1; return", api.ErrCode}, {"push 1.5; call 1; drop; push 1; return", api.ErrCode}, {"push 1; push 1.5; call 2; drop; push 1; return", api.ErrCode},
		{"load 0; load 1; call 1; store 2; push 1; return", api.OK}, {"load 1; load 0; call 1; store 2; push 1; return", api.ErrCode}, {"load 0; load 1; call 1; store 0; push 1; return", api.ErrCode}, {"load 3; return", api.ErrCode}, {"load 0; return", api.OK}, {"load 2; return", api.ErrCode},
	} {
		i := withVars(img(fn(":i", "", c.text), called), num(1), float(1), truth(1))
		rightIs(t, c.text, i, c.want)
	}
}

// fault: something that makes an image wrong, and the error that it has by itself; what is of a lower rank is told ahead.
type fault struct {
	rank int
	what string
	code api.Errno
	turn func(i *image.Image)
}

// faultless: a right image with something to turn in each part.
func faultless() image.Image {
	return copied(withVars(from(1, img(fn("i:i", "f", "get 0; return"), fn(":i", "", "push 1; call 0; return"), fn("", "b", "push true; put 0; return"), fn(":f", "", "load 1; return"))), num(1), float(1.5), truth(1)))
}

func fnFaults(rank, n int) []fault {
	of := func(what string, code api.Errno, turn func(f *code.Fn)) fault {
		return fault{rank, fmt.Sprint(what, " of ", n), code, func(i *image.Image) { turn(&i.Fns[n]) }}
	}
	return []fault{
		of("no code", api.ErrCode, func(f *code.Fn) { f.Code = nil }),
		of("too much code", api.ErrBig, func(f *code.Fn) { f.Code = append(f.Code, times(4096, code.Ins{Op: 11})...) }),
		of("no instruction", api.ErrCode, func(f *code.Fn) { f.Code[0] = code.Ins{} }),
		of("another shape", api.ErrType, func(f *code.Fn) { f.Code = asm("push 1; jump 0") }),
		of("too great a stack", api.ErrBig, func(f *code.Fn) { f.Code = append(times(513, code.Ins{Op: 14}), f.Code...) }),
		of("too many locals", api.ErrBig, func(f *code.Fn) { f.Locals = append(f.Locals, times(65, 1)...) }),
		of("a local of no type", api.ErrCode, func(f *code.Fn) { f.Locals = append(f.Locals, 7) }),
	}
}

// allFaults: in the order of the chapter.
func allFaults() []fault {
	l := []fault{
		{0, "too many variables", api.ErrBig, func(i *image.Image) { i.Vars = append(i.Vars, times(2046, num(1))...) }},
		{0, "too many functions", api.ErrBig, func(i *image.Image) { i.Fns = append(i.Fns, times(2045, five())...) }},
		{1, "the first variable", api.ErrImage, func(i *image.Image) { i.Vars[0].Type = 4 }},
		{1, "the last variable", api.ErrImage, func(i *image.Image) { i.Vars[2].Bits = 2 }},
		{1, "Main below 0", api.ErrImage, func(i *image.Image) { i.Main = -1 }},
		{1, "Main beyond", api.ErrImage, func(i *image.Image) { i.Main = 4 }},
		{1, "Main's parameter", api.ErrImage, func(i *image.Image) { i.Main = 0 }},
		{1, "Main without a result", api.ErrImage, func(i *image.Image) { i.Main = 2 }},
		{1, "Main with another result", api.ErrImage, func(i *image.Image) { i.Main = 3 }},
	}
	for n := range 4 {
		l = append(l, fnFaults(2+n, n)...)
	}
	return l
}

func TestEachFaultAlone(t *testing.T) {
	rightIs(t, "no fault", faultless(), api.OK)
	for _, f := range allFaults() {
		i := faultless()
		f.turn(&i)
		what := fmt.Sprint(f.rank, " ", f.what)
		rightIs(t, what, i, f.code)
		is(t, what+": Pack", packed(i), bytesTold(nil, f.code))
		is(t, what+": Text", image.Text(i), "")
	}
}

func TestEachFaultBesideALaterOne(t *testing.T) {
	all := allFaults()
	for _, first := range all {
		for _, later := range all {
			if later.rank <= first.rank {
				continue
			}
			i := faultless()
			later.turn(&i)
			first.turn(&i)
			rightIs(t, fmt.Sprintf("%d %s and %d %s", first.rank, first.what, later.rank, later.what), i, first.code)
		}
	}
}

// A signature that is wrong is seen by the functions ahead of it too, if they have no fault that is told ahead of it.
func TestRightOfALaterSignature(t *testing.T) {
	for _, s := range []code.Sig{{Params: []int{1, 4}}, {Params: []int{0}}, {Result: 4}, {Result: -1}, {Result: 257}} {
		later := code.Fn{Sig: s, Locals: s.Params, Code: asm("jump 0")}
		rightIs(t, "a later signature", img(five(), later), api.ErrCode)
		rightIs(t, "a later signature, and too many locals ahead", img(code.Fn{Sig: code.Sig{Result: 1}, Locals: times(65, 1), Code: asm("jump 0")}, later), api.ErrBig)
		rightIs(t, "a later signature, and another shape ahead", img(fn(":i", "", "push 1; jump 0"), later), api.ErrCode)
	}
	nine := code.Fn{Sig: code.Sig{Params: times(9, 1)}, Locals: times(9, 1), Code: asm("jump 0")}
	rightIs(t, "too many parameters", img(five(), nine), api.ErrBig)
	rightIs(t, "too many parameters, and another shape ahead", img(fn(":i", "", "push 1; jump 0"), nine), api.ErrType)
	nine.Sig.Params[8] = 4
	rightIs(t, "too many parameters, of which one is no type", img(five(), nine), api.ErrCode)
}

func TestRightIsTheModels(t *testing.T) {
	seen := map[api.Errno]int{}
	m := mixer(1701)
	for seed := range uint64(12000) {
		i := made(seed)
		rightIs(t, "a made one", i, api.OK)
		for range m.below(3) {
			if len(i.Fns) > 0 {
				i = m.near(i)
			}
		}
		want := modelRight(i)
		seen[want]++
		if got := image.Right(i); got != want {
			t.Fatalf("%v, not %v, of %s", got, want, key(i))
		}
	}
	for _, e := range []api.Errno{api.OK, api.ErrImage, api.ErrCode, api.ErrType} {
		if seen[e] < 50 {
			t.Errorf("%d of %v", seen[e], e)
		}
	}
}

// P1701: Frame

func TestFrame(t *testing.T) {
	i := withVars(img(fn("if:b", "", ""), five(), fn("", "", ""), fn("bbb:f", "", "")), truth(1), num(2), float(3), num(4))
	want := code.Frame{Fns: []code.Sig{{Params: []int{1, 2}, Result: 3}, {Result: 1}, {}, {Params: []int{3, 3, 3}, Result: 2}}, Vars: []int{3, 1, 2, 1}}
	is(t, "of one that is not right", frameKey(image.Frame(i)), frameKey(want))
	is(t, "of none", frameKey(image.Frame(image.Image{})), frameKey(code.Frame{}))
	is(t, "of functions alone", frameKey(image.Frame(img(five()))), frameKey(code.Frame{Fns: []code.Sig{{Result: 1}}}))
	is(t, "of variables alone", frameKey(image.Frame(withVars(img(), num(1), truth(1)))), frameKey(code.Frame{Vars: []int{1, 3}}))
	strange := withVars(img(code.Fn{Sig: code.Sig{Params: []int{-1, 257}, Result: math.MinInt}}), api.Value{Type: math.MaxInt}, api.Value{})
	is(t, "of strange types", frameKey(image.Frame(strange)), frameKey(code.Frame{Fns: []code.Sig{{Params: []int{-1, 257}, Result: math.MinInt}}, Vars: []int{math.MaxInt, 0}}))
	great := withVars(img(times(3000, five())...), times(5000, truth(1))...)
	p := image.Frame(great)
	is(t, "more functions than there may be", len(p.Fns), 3000)
	is(t, "more variables than there may be", slices.Equal(p.Vars, times(5000, 3)), true)
}

func TestFrameOfMany(t *testing.T) {
	m := mixer(1702)
	for seed := range uint64(2000) {
		i := made(seed)
		if seed%2 == 0 {
			i = m.near(i)
		}
		var want code.Frame
		for _, f := range i.Fns {
			want.Fns = append(want.Fns, f.Sig)
		}
		for _, v := range i.Vars {
			want.Vars = append(want.Vars, v.Type)
		}
		is(t, "Frame", frameKey(image.Frame(i)), frameKey(want))
	}
}
