package vm_test

import (
	"math"
	"slices"

	"foundry/api"
	"foundry/code"
	"foundry/image"
	"foundry/types"
)

// mixer: numbers without a pattern, the same ones each time.
type mixer uint64

func (x *mixer) next() uint64 {
	*x += 0x9e3779b97f4a7c15
	z := uint64(*x)
	z = (z ^ z>>30) * 0xbf58476d1ce4e5b9
	z = (z ^ z>>27) * 0x94d049bb133111eb
	return z ^ z>>31
}

// below: a number from 0 on that is below n.
func (x *mixer) below(n int) int {
	return int(x.next() % uint64(n))
}

// in: once in so many times.
func (x *mixer) in(n int) bool {
	return x.below(n) == 0
}

func pick[T any](x *mixer, l ...T) T {
	return l[x.below(len(l))]
}

// inputs: numbers for a run.
func (x *mixer) inputs() []int64 {
	l := make([]int64, x.below(12))
	for at := range l {
		l[at] = pick(x, 0, 1, 2, -1, int64(x.below(50)), math.MinInt64, math.MaxInt64)
	}
	return l
}

// coder: makes functions that are right, of statements that leave the stack as it was, and of values in between.
type coder struct {
	mixer
	f     code.Fn
	p     code.Frame
	depth int
}

func (x *coder) types(n int) []int {
	var l []int
	for range x.below(n + 1) {
		l = append(l, 1+x.below(3))
	}
	return l
}

// coded: a right image.
func coded(seed uint64) image.Image {
	x := coder{mixer: mixer(seed)}
	var i image.Image
	for range x.below(5) {
		v := pick(&x.mixer, edgeValues()...)
		i.Vars, x.p.Vars = append(i.Vars, v), append(x.p.Vars, v.Type)
	}
	for range 1 + x.below(5) {
		x.p.Fns = append(x.p.Fns, code.Sig{Params: x.types(3), Result: x.below(4)})
	}
	i.Main = x.below(len(x.p.Fns))
	x.p.Fns[i.Main] = code.Sig{Result: api.TInt}
	for _, s := range x.p.Fns {
		x.f = code.Fn{Sig: s, Locals: append(slices.Clone(s.Params), x.types(4)...)}
		x.block()
		x.over()
		for range x.below(3) {
			x.emit(8+x.below(10), 0)
		}
		i.Fns = append(i.Fns, x.f)
	}
	return i
}

// emit: an instruction more; its place.
func (x *coder) emit(op, n int) int {
	x.f.Code = append(x.f.Code, code.Ins{Op: op, N: n})
	return len(x.f.Code) - 1
}

// here: the instruction at the place leads to what comes next.
func (x *coder) here(at int) {
	x.f.Code[at].N = len(x.f.Code)
}

func (x *coder) push(t int) {
	for {
		if v := pick(&x.mixer, edgeValues()...); v.Type == t {
			x.f.Code = append(x.f.Code, code.Ins{Op: 1, V: v})
			return
		}
	}
}

// value: puts a value of the type, made in one of several ways.
func (x *coder) value(t int) {
	x.depth++
	way := x.below(8)
	if x.depth > 4 {
		way = 0
	}
	switch at := x.find(x.f.Locals, t); {
	case way <= 2 && at >= 0:
		x.emit(2, at)
	case way == 3 && x.find(x.p.Vars, t) >= 0:
		x.emit(4, x.find(x.p.Vars, t))
	case way == 4 && t == api.TInt:
		x.emit(14, 0)
	case way == 5:
		x.operator(t)
	case way == 6 && x.call(t):
	default:
		x.push(t)
	}
	x.depth--
}

// find: some place in the list that has this type; below 0, if none has.
func (x *coder) find(l []int, t int) int {
	if len(l) == 0 {
		return -1
	}
	first := x.below(len(l))
	for n := range l {
		if at := (first + n) % len(l); l[at] == t {
			return at
		}
	}
	return -1
}

// operator: puts what an operator makes; there is one of each type.
func (x *coder) operator(t int) {
	for {
		n, of := 1+x.below(11), 1+x.below(3)
		if x.in(3) {
			if got, e := types.Unary(n, of); e == api.OK && got == t {
				x.value(of)
				x.emit(6, n)
				return
			}
		} else if got, e := types.Binary(n, of, of); e == api.OK && got == t {
			x.value(of)
			x.value(of)
			x.emit(7, n)
			return
		}
	}
}

// call: of a function with this result, if there is one.
func (x *coder) call(result int) bool {
	var l []int
	for at, s := range x.p.Fns {
		if s.Result == result {
			l = append(l, at)
		}
	}
	if len(l) == 0 {
		return false
	}
	at := pick(&x.mixer, l...)
	params := x.p.Fns[at].Params
	for _, t := range params {
		x.value(t)
	}
	x.emit(10, at)
	return true
}

// block: statements that leave the stack and the tries as they are.
func (x *coder) block() {
	x.depth++
	for range 1 + x.below(4) {
		if x.depth > 3 || len(x.f.Code) > 300 {
			x.value(1 + x.below(3))
			x.emit(12+5*x.below(2), 0)
			continue
		}
		x.statement()
	}
	x.depth--
}

func (x *coder) statement() {
	t := 1 + x.below(3)
	switch x.below(9) {
	case 0:
		x.value(t)
		x.emit(12, 0)
	case 1:
		x.into(3, x.find(x.f.Locals, t), t)
	case 2:
		x.into(5, x.find(x.p.Vars, t), t)
	case 3:
		x.call(api.TNone)
	case 4:
		x.value(api.TBool)
		other := x.emit(9, 0)
		if x.in(3) {
			x.over()
		} else {
			x.block()
		}
		x.here(other)
	case 5:
		again := len(x.f.Code)
		x.value(api.TBool)
		out := x.emit(9, 0)
		x.block()
		x.emit(8, again)
		x.here(out)
	case 6:
		x.value(t)
		x.block()
		x.emit(17, 0)
	default:
		x.try(t)
	}
}

// into: a value of the type goes into the place, if there is one.
func (x *coder) into(op, at, t int) {
	if at >= 0 {
		x.value(t)
		x.emit(op, at)
	}
}

// try: over a value, which at times is taken from below the open try, and another one put there.
func (x *coder) try(t int) {
	x.value(t)
	caught := x.emit(15, 0)
	if x.in(2) {
		other := 1 + x.below(3)
		x.emit(17, 0)
		x.value(other)
		x.block()
		x.emit(17, 0)
		x.value(t)
	} else {
		x.block()
	}
	x.emit(16, 0)
	behind := x.emit(8, 0)
	x.here(caught)
	if x.in(3) && x.find(x.f.Locals, api.TInt) >= 0 {
		x.emit(3, x.find(x.f.Locals, api.TInt))
	} else {
		x.emit(12, 0)
	}
	x.here(behind)
	x.emit(pick(&x.mixer, 12, 17), 0)
}

// over: a fail, or a return; what else is on the stack does not matter.
func (x *coder) over() {
	switch {
	case x.in(4):
		x.value(api.TInt)
		x.emit(13, 0)
	case x.f.Sig.Result == api.TNone:
		x.emit(11, 0)
	default:
		x.value(x.f.Sig.Result)
		x.emit(11, 0)
	}
}

// near: the image in memory of its own with something about it changed, so that it may be not right any more.
func (x *mixer) near(i image.Image) image.Image {
	i = roomy(i)
	number := pick(x, 0, 1, 2, 3, 4, -1, 5, 257, 65537, math.MaxInt)
	switch x.below(5) {
	case 0:
		i.Main = number
	case 1:
		i.Vars = append(i.Vars, pick(x, num(1), truth(2), api.Value{}, api.Value{Type: number}))
	default:
		if len(i.Fns) > 0 {
			x.turnFn(&i.Fns[x.below(len(i.Fns))], number)
		}
	}
	return i
}

func (x *mixer) turnFn(f *code.Fn, number int) {
	if len(f.Code) == 0 {
		f.Code = append(f.Code, code.Ins{Op: 11})
	}
	at := x.below(len(f.Code))
	switch x.below(6) {
	case 0:
		f.Sig.Result = number
	case 1:
		f.Locals = append(f.Locals, number)
	case 2:
		f.Code[at].N = number
	case 3:
		f.Code[at] = pick(x, asm("return; show; input; untry; drop; jump 0; call 1; push 1")...)
	case 4:
		f.Code = slices.Delete(f.Code, at, at+1)
	case 5:
		f.Code = slices.Insert(f.Code, at, asm("input; drop")...)
	}
}
