package code_test

import (
	"fmt"
	"slices"
	"testing"

	"foundry/api"
	"foundry/code"
)

// asTheModel fails unless Verify, and Shape at each place, answer what the model does; it answers the error.
func asTheModel(t *testing.T, f code.Fn, p code.Frame) api.Errno {
	t.Helper()
	shapes, at, e := modelVerify(f, p)
	if got := told(code.Verify(f, p)); got != told(at, e) {
		t.Fatalf("Verify: %s, not %s, of %s in %s\n%s", got, told(at, e), key(f.Sig), key(p), code.Texts(f.Code))
	}
	for n := -1; n <= len(f.Code); n++ {
		want := noShape()
		if s, seen := shapes[n]; seen {
			want = shapeTold(s.stack, len(s.tries), true)
		}
		if got := shapeTold(code.Shape(f, p, n)); got != want {
			t.Fatalf("Shape at %d: %s, not %s, of %s in %s\n%s", n, got, want, key(f.Sig), key(p), code.Texts(f.Code))
		}
	}
	return e
}

// F14.3: all code of few instructions

func TestAllShortCode(t *testing.T) {
	p := frame("i:i b", "b")
	plain := asm("push 1; push true; push 1.5; get 0; put 0; store 0; un neg; un not; bin +; bin ==; call 0; call 1; return; drop; fail; input; untry")
	few := asm("push 1; push true; drop; return; untry; fail")
	seen := map[api.Errno]int{}
	var all func(words, l []code.Ins, n int)
	all = func(words, l []code.Ins, n int) {
		if n == 0 {
			seen[asTheModel(t, fnOf(":i", "i", l), p)]++
			return
		}
		for _, i := range words {
			all(words, append(slices.Clone(l), i), n-1)
		}
	}
	leading := func(n int) []code.Ins {
		var l []code.Ins
		for _, op := range []int{8, 9, 15} {
			for to := range n + 1 {
				l = append(l, code.Ins{Op: op, N: to})
			}
		}
		return l
	}
	for n := range 4 {
		all(cat(plain, leading(n)), nil, n)
	}
	all(cat(few, leading(4)), nil, 4)
	all(cat(few, leading(3)), asm("push 1"), 3)
	all(cat(few, leading(3)), asm("push true"), 3)
	all(cat(few, leading(4)), asm("try 3"), 3)
	is(t, "each error was seen", seen[api.OK] > 100 && seen[api.ErrCode] > 1000 && seen[api.ErrType] > 100, true)
}

// F14.3, P1402: what is made to be right is right, and each thing that is turned in it is told as the model tells it

func TestMadeFunctions(t *testing.T) {
	m := mixer(1402)
	seen := map[api.Errno]int{}
	for seed := range uint64(250) {
		f, p := made(seed)
		is(t, fmt.Sprint("seed ", seed, "\n", code.Texts(f.Code)), asTheModel(t, f, p), api.OK)
		for range 6 {
			g := turned(&m, f)
			if len(g.Code) > 0 && m.below(3) == 0 {
				g = turned(&m, g)
			}
			seen[asTheModel(t, g, p)]++
		}
	}
	is(t, "each error was seen", seen[api.OK] > 100 && seen[api.ErrCode] > 100 && seen[api.ErrType] > 100, true)
}

func TestRandomCode(t *testing.T) {
	m := mixer(14020)
	seen := map[api.Errno]int{}
	words := asm("push 1; push true; push 1.5; input; drop; drop; show; untry; get 0; put 0; un neg; bin +; bin <; call 0; return; fail")
	for range 20000 {
		n := 1 + m.below(9)
		var l []code.Ins
		for range n {
			i := pick(&m, words)
			if m.below(3) == 0 {
				i = code.Ins{Op: pick(&m, []int{8, 9, 9, 15, 15}), N: m.below(n)}
			}
			l = append(l, i)
		}
		seen[asTheModel(t, fnOf("", "i", l), frame("i:b", ""))]++
	}
	is(t, "each error was seen", seen[api.OK] > 200 && seen[api.ErrCode] > 200 && seen[api.ErrType] > 200, true)
}

// P1402: one shape. A machine that knows nothing of shapes runs the code with values; where it goes, and whether it traps, is chance.

type ranTry struct {
	n     int
	stack []api.Value
}

type runner struct {
	mixer
	f      code.Fn
	p      code.Frame
	locals []api.Value
	vars   []api.Value
	stack  []api.Value
	tries  []ranTry
	at     int
}

func (r *runner) pop() api.Value {
	v := r.stack[len(r.stack)-1]
	r.stack = slices.Clone(r.stack[:len(r.stack)-1])
	return v
}

func (r *runner) push(v api.Value) {
	r.stack = append(slices.Clone(r.stack), v)
}

func (r *runner) some(t int) api.Value {
	return []api.Value{1: num(int64(r.below(5))), 2: float(2.5), 3: truth(r.below(2) == 0)}[t]
}

// trap: to the try that was opened last; false, if none is open.
func (r *runner) trap() bool {
	if len(r.tries) == 0 {
		return false
	}
	last := r.tries[len(r.tries)-1]
	r.tries = slices.Clone(r.tries[:len(r.tries)-1])
	r.stack = slices.Clone(last.stack)
	r.push(num(-2))
	r.at = last.n
	return true
}

// wants fails unless the value is of the type.
func (r *runner) wants(t *testing.T, v api.Value, typ int) {
	t.Helper()
	if v.Type != typ {
		t.Fatalf("at %d: a value of the type %d, not %d\n%s", r.at, v.Type, typ, code.Texts(r.f.Code))
	}
}

// made: what an operator makes, by its operands' types alone.
func (r *runner) made(i code.Ins, v api.Value) api.Value {
	switch {
	case i.Op == 7 && i.N >= api.BEq:
		return r.some(api.TBool)
	case i.Op == 6 && i.N == api.UInt:
		return r.some(api.TInt)
	case i.Op == 6 && i.N == api.UFloat:
		return r.some(api.TFloat)
	}
	return r.some(v.Type)
}

// step: false, where the run ends.
func (r *runner) step(t *testing.T) bool {
	i := r.f.Code[r.at]
	if traps := slices.Contains([]int{6, 7, 10, 14}, i.Op) && r.below(6) == 0; traps {
		return r.trap()
	}
	switch i.Op {
	case 1:
		r.push(i.V)
	case 2:
		r.push(r.locals[i.N])
	case 3:
		v := r.pop()
		r.wants(t, v, r.locals[i.N].Type)
		r.locals[i.N] = v
	case 4:
		r.push(r.vars[i.N])
	case 5:
		v := r.pop()
		r.wants(t, v, r.vars[i.N].Type)
		r.vars[i.N] = v
	case 6:
		r.push(r.made(i, r.pop()))
	case 7:
		v := r.pop()
		r.wants(t, r.pop(), v.Type)
		r.push(r.made(i, v))
	case 8:
		r.at = i.N
		return true
	case 9:
		v := r.pop()
		r.wants(t, v, api.TBool)
		if r.below(2) == 0 {
			r.at = i.N
			return true
		}
	case 10:
		for _, typ := range slices.Backward(r.p.Fns[i.N].Params) {
			r.wants(t, r.pop(), typ)
		}
		if result := r.p.Fns[i.N].Result; result != api.TNone {
			r.push(r.some(result))
		}
	case 11:
		if r.f.Sig.Result != api.TNone {
			r.wants(t, r.pop(), r.f.Sig.Result)
		}
		return false
	case 12, 17:
		r.pop()
	case 13:
		r.wants(t, r.pop(), api.TInt)
		return r.trap()
	case 14:
		r.push(r.some(api.TInt))
	case 15:
		r.tries = append(slices.Clone(r.tries), ranTry{i.N, r.stack})
	case 16:
		r.tries = slices.Clone(r.tries[:len(r.tries)-1])
	}
	r.at++
	return true
}

// runs: the code is run, and at each step Shape is held against what is there.
func runs(t *testing.T, seed uint64, f code.Fn, p code.Frame) {
	shapes := map[int]string{}
	for at := range f.Code {
		shapes[at] = shapeTold(code.Shape(f, p, at))
	}
	for round := range uint64(6) {
		r := runner{mixer: mixer(seed*100 + round), f: f, p: p}
		for _, typ := range f.Locals {
			r.locals = append(r.locals, r.some(typ))
		}
		for _, typ := range p.Vars {
			r.vars = append(r.vars, r.some(typ))
		}
		for range 200 {
			var stack []int
			for _, v := range r.stack {
				stack = append(stack, v.Type)
			}
			if got := shapeTold(stack, len(r.tries), true); got != shapes[r.at] {
				t.Fatalf("seed %d at %d: %s is there, Shape says %s\n%s", seed, r.at, got, shapes[r.at], code.Texts(f.Code))
			}
			if !r.step(t) {
				break
			}
		}
	}
}

func TestRunsKeepToTheShapes(t *testing.T) {
	m := mixer(14021)
	turnedOnes := 0
	for seed := range uint64(300) {
		f, p := made(seed)
		runs(t, seed, f, p)
		for range 4 {
			g := turned(&m, f)
			if _, e := code.Verify(g, p); e == api.OK {
				turnedOnes++
				runs(t, seed, g, p)
			}
		}
	}
	is(t, "turned ones that are right", turnedOnes > 50, true)
}

// P1403: with any other right instruction at a place that is never come to, Verify answers the same

// allShapes: what Shape answers at each place.
func allShapes(f code.Fn, p code.Frame) []string {
	var l []string
	for at := range f.Code {
		l = append(l, shapeTold(code.Shape(f, p, at)))
	}
	return l
}

func TestVerifyHangsOnNothingThatIsNeverComeTo(t *testing.T) {
	m := mixer(1403)
	places := 0
	for seed := range uint64(300) {
		f, p := made(seed)
		if seed%2 == 1 {
			f = turned(&m, f)
		}
		if _, e := code.Verify(f, p); e != api.OK {
			continue
		}
		shapes := allShapes(f, p)
		for n := range f.Code {
			if shapes[n] != noShape() {
				continue
			}
			places++
			g := copyFn(f)
			for range 8 {
				g.Code[n] = randomIns(&m)
				verifies(t, fmt.Sprint("seed ", seed, " with another one at ", n), g, p, 0, api.OK)
			}
			is(t, fmt.Sprint("seed ", seed, ": shapes"), slices.Equal(allShapes(g, p), shapes), true)
			g.Code[n] = pick(&m, wrongIns())
			verifies(t, fmt.Sprint("seed ", seed, " with a wrong one at ", n), g, p, n, api.ErrCode)
		}
	}
	is(t, "places", places > 100, true)
}

// Rule 1: whatever comes in, there is an answer.

func TestStrangeFunctions(t *testing.T) {
	m := mixer(1400)
	numbers := []int{-1, 0, 1, 2, 3, 4, 8, 9, 10, 15, 255, 4096, 65535, 65536, -1 << 63, 1<<63 - 1}
	some := func() []int {
		var l []int
		for range m.below(5) {
			l = append(l, pick(&m, []int{0, 1, 2, 3, 1, 2, 3, 1, 2, 3, pick(&m, numbers)}))
		}
		return l
	}
	for range 20000 {
		f := code.Fn{Sig: code.Sig{Params: some(), Result: pick(&m, []int{0, 1, 2, 3, pick(&m, numbers)})}}
		f.Locals = append(slices.Clone(f.Sig.Params), some()...)
		if m.below(8) == 0 {
			f.Locals = some()
		}
		p := code.Frame{Fns: []code.Sig{{Params: some(), Result: m.below(5) - 1}}, Vars: some()}
		for range m.below(6) {
			i := randomIns(&m)
			if m.below(9) == 0 {
				i = code.Ins{Op: pick(&m, numbers), N: pick(&m, numbers), V: api.Value{Type: pick(&m, numbers), Bits: m.next()}}
			}
			f.Code = append(f.Code, i)
		}
		asTheModel(t, f, p)
	}
}
