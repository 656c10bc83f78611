package code_test

import (
	"fmt"
	"slices"
	"sync"
	"testing"

	"foundry/api"
	"foundry/code"
)

// whole: all that a list has, its spare room too.
func whole[T any](l []T) string {
	return fmt.Sprintf("%d %#v", len(l), l[:cap(l)])
}

func scribble[T any](l []T, x T) {
	l = l[:cap(l)]
	for at := range l {
		l[at] = x
	}
}

func spareIns() code.Ins {
	return code.Ins{Op: 77, N: 77}
}

// roomy: the function and the program in memory of their own, with spare room in each list.
func roomy(f code.Fn, p code.Frame) (code.Fn, code.Frame) {
	f.Sig.Params, f.Locals, f.Code = spared(f.Sig.Params, 77), spared(f.Locals, 77), spared(f.Code, spareIns())
	p.Fns, p.Vars = spared(p.Fns, code.Sig{Result: 77}), spared(p.Vars, 77)
	for at := range p.Fns {
		p.Fns[at].Params = spared(p.Fns[at].Params, 77)
	}
	return f, p
}

func wholeFn(f code.Fn, p code.Frame) string {
	text := whole(f.Sig.Params) + whole(f.Locals) + whole(f.Code) + whole(p.Vars) + fmt.Sprint(f.Sig.Result, len(p.Fns))
	for _, s := range p.Fns[:cap(p.Fns)] {
		text += whole(s.Params) + fmt.Sprint(s.Result)
	}
	return text
}

// What is handed in stays as it was.

func TestWhatIsHandedInStays(t *testing.T) {
	l := spared(append(rightIns(), wrongIns()...), spareIns())
	right := spared(rightIns(), spareIns())
	b := spared(modelAll(right), 77)
	ahead, aheadRight, aheadBytes := whole(l), whole(right), whole(b)
	code.Encode(l)
	code.Encode(right)
	code.Texts(l)
	code.Decode(b)
	code.Decode(b[:len(b)-1])
	for at := -1; at <= len(l); at++ {
		code.Patch(l, at, 1)
		code.Patch(l, at, -1)
	}
	is(t, "instructions", whole(l), ahead)
	is(t, "right instructions", whole(right), aheadRight)
	is(t, "bytes", whole(b), aheadBytes)
	m := mixer(14)
	for seed := range uint64(200) {
		f, p := made(seed)
		if seed%2 == 1 {
			f = turned(&m, f)
		}
		f, p = roomy(f, p)
		ahead := wholeFn(f, p)
		code.Verify(f, p)
		for at := range f.Code {
			code.Shape(f, p, at)
		}
		is(t, fmt.Sprint("seed ", seed), wholeFn(f, p), ahead)
	}
}

// What is handed out is nobody else's.

func TestEncodeSharesNothing(t *testing.T) {
	l := rightIns()
	first, _ := code.Encode(l)
	second, _ := code.Encode(l)
	scribble(first, 99)
	is(t, "the other answer", string(second), string(modelAll(l)))
	is(t, "one more", encoded(l), bytesTold(modelAll(l), api.OK))
}

func TestDecodeSharesNothing(t *testing.T) {
	l := rightIns()
	b := modelAll(l)
	first, _ := code.Decode(b)
	second, _ := code.Decode(b)
	scribble(first, spareIns())
	is(t, "the other answer", key(second), key(l))
	is(t, "the bytes", string(b), string(modelAll(l)))
	scribble(b, 99)
	is(t, "behind the bytes' end", key(second), key(l))
}

func TestPatchSharesNothing(t *testing.T) {
	for at := range 3 {
		l := spared(asm("jump 1; jump 2; jump 3"), spareIns())
		ahead := whole(l)
		want := slices.Clone(l)
		want[at].N = 9
		first, _ := code.Patch(l, at, 9)
		second, _ := code.Patch(l, at, 9)
		same, _ := code.Patch(l, at, l[at].N)
		scribble(first, code.Ins{Op: 5, N: 5})
		scribble(same, code.Ins{Op: 5, N: 5})
		is(t, "what was handed in", whole(l), ahead)
		is(t, "the other answer", key(second), key(want))
		scribble(l, spareIns())
		is(t, "the other answer once more", key(second), key(want))
	}
}

func TestShapeSharesNothing(t *testing.T) {
	f, p := roomy(fn("ifb", "", "get 0; get 1; get 2; jump 3"), code.Frame{})
	ahead := wholeFn(f, p)
	first, _, _ := code.Shape(f, p, 3)
	second, _, _ := code.Shape(f, p, 3)
	scribble(first, 99)
	is(t, "the other answer", fmt.Sprint(second), "[1 2 3]")
	is(t, "what was handed in", wholeFn(f, p), ahead)
	shapeIs(t, f, p, 3, "ifb", 0)
	shapeIs(t, f, p, 2, "if", 0)
	scribble(f.Locals, 99)
	scribble(f.Code, spareIns())
	is(t, "the other answer once more", fmt.Sprint(second), "[1 2 3]")
}

// A list without an element may be nil or empty.

func TestEmptyLists(t *testing.T) {
	bare := code.Fn{Code: asm("input; return")}
	full := code.Fn{Sig: code.Sig{Params: []int{}}, Locals: []int{}, Code: asm("input; return")}
	for _, f := range []code.Fn{bare, full} {
		for _, p := range []code.Frame{{}, {Fns: []code.Sig{}, Vars: []int{}}, {Fns: []code.Sig{{Params: []int{}}}}} {
			verifies(t, "empty lists", f, p, 0, api.OK)
			shapeIs(t, f, p, 1, "i", 0)
			shapeIs(t, f, p, 0, "", 0)
		}
	}
}

// What a call answers hangs on its arguments alone: the same ones once more, or at the same time, are answered alike.

func TestAnswersAreTheSameOnceMore(t *testing.T) {
	m := mixer(140)
	type one struct {
		f code.Fn
		p code.Frame
	}
	var all []one
	var want []string
	tell := func(o one) string {
		text := told(code.Verify(o.f, o.p)) + code.Texts(o.f.Code) + encoded(o.f.Code)
		for at := range o.f.Code {
			text += shapeTold(code.Shape(o.f, o.p, at))
		}
		return text
	}
	for seed := range uint64(60) {
		f, p := made(seed)
		all = append(all, one{f, p}, one{turned(&m, f), p})
	}
	for _, o := range all {
		want = append(want, tell(o))
	}
	got := make([]string, len(all))
	var workers sync.WaitGroup
	for at, o := range all {
		workers.Go(func() { got[at] = tell(o) })
	}
	workers.Wait()
	for at, o := range all {
		is(t, fmt.Sprint("at the same time ", at), got[at], want[at])
		is(t, fmt.Sprint("once more ", at), tell(o), want[at])
	}
}
