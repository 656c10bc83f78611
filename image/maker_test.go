package image_test

import (
	"math"
	"slices"

	"foundry/api"
	"foundry/code"
	"foundry/image"
	"foundry/types"
)

// rightImages: images that are right, no two of them the same.
func rightImages() []image.Image {
	half := fn("i:i", "", "get 0; push 2; bin 4; return")
	nothing := fn("", "", "return")
	l := []image.Image{
		img(five()), img(fn(":i", "", "push 6; return")), img(fn(":i", "", "push -5; return")), img(fn(":i", "", "push 5; return; return")), img(fn(":i", "i", "push 5; return")),
		img(fn(":i", "", "input; return")), img(fn(":i", "", "fail; return; jump 0; push 1; fail")), img(fn(":i", "", "jump 0")),
		img(five(), five()), from(1, img(five(), five())), img(five(), five(), five()), from(2, img(five(), five(), five())), img(five(), nothing), from(1, img(nothing, five())),
		img(fn(":i", "", "push 7; call 1; return"), half), from(1, img(half, fn(":i", "", "push 7; call 0; return"))), img(fn(":i", "", "call 0; return")), img(fn(":i", "", "call 1; return"), fn(":i", "", "call 0; return")),
		img(fn(":i", "ifb", "push 1; put 0; push 1.5; put 1; push true; put 2; get 0; return")), img(fn(":i", "", "try 3; untry; jump 4; drop; push 1; return")),
		img(five(), fn("ifb:f", "bfi", "get 1; return"), fn("iiiiiiii:b", "", "push false; return"), fn("bbf", "", "get 2; un 1; show; return")),
		withVars(img(five()), num(1)), withVars(img(five()), num(1), num(1)), withVars(img(five()), num(1), truth(1)), withVars(img(five()), truth(1), num(1)),
		withVars(img(fn(":i", "", "load 0; return")), num(-3)), withVars(img(fn(":i", "", "push 1; store 1; push 1.5; store 0; load 1; return")), float(0), num(0)),
		withVars(img(five(), nothing), num(1), truth(1)), withVars(from(1, img(nothing, five())), num(1), truth(1)),
	}
	l[6].Fns[0].Code[0] = code.Ins{Op: 14}
	for _, v := range rightValues() {
		if v != num(1) {
			l = append(l, withVars(img(five()), v))
		}
		l = append(l, img(five(), code.Fn{Code: []code.Ins{{Op: 1, V: v}, {Op: 11}}}), withVars(img(five()), num(7), v, num(7)))
	}
	for result := range 4 {
		l = append(l, img(five(), code.Fn{Sig: code.Sig{Result: result}, Code: asm("jump 0")}))
	}
	for _, n := range []int{1, 63, 64} {
		l = append(l, img(five(), code.Fn{Locals: times(n, 1+n%3), Code: asm("jump 0")}))
	}
	return append(l, withVars(img(five()), times(2048, truth(0))...), img(times(2048, five())...), from(2047, img(times(2048, five())...)))
}

// wrongImage: an image that is not right, and the error of it.
type wrongImage struct {
	what string
	i    image.Image
	code api.Errno
}

// wrongImages: one of each kind of fault at least.
func wrongImages() []wrongImage {
	second := func(f code.Fn) image.Image { return img(five(), f) }
	coded := func(l ...code.Ins) image.Image { return second(code.Fn{Code: l}) }
	return []wrongImage{
		{"the zero image", image.Image{}, api.ErrImage},
		{"too many variables", withVars(img(five()), times(2049, num(1))...), api.ErrBig},
		{"too many functions", img(times(2049, five())...), api.ErrBig},
		{"no value", withVars(img(five()), api.Value{}), api.ErrImage},
		{"a type that is a byte's one", withVars(img(five()), api.Value{Type: 257}), api.ErrImage},
		{"a bool of 2", withVars(img(five()), num(1), truth(2)), api.ErrImage},
		{"another NaN", withVars(img(five()), api.Value{Type: api.TFloat, Bits: math.MaxUint64}), api.ErrImage},
		{"Main below 0", from(-1, img(five())), api.ErrImage},
		{"Main beyond the last one", from(1, img(five())), api.ErrImage},
		{"Main far beyond the last one", from(math.MaxInt, img(five())), api.ErrImage},
		{"Main with a parameter", img(fn("i:i", "", "push 5; return")), api.ErrImage},
		{"Main with a float", img(fn(":f", "", "push 1.5; return")), api.ErrImage},
		{"Main with a bool", img(fn(":b", "", "push true; return")), api.ErrImage},
		{"Main with no result", img(fn("", "", "return")), api.ErrImage},
		{"Main with a strange result", img(code.Fn{Sig: code.Sig{Result: 257}, Code: asm("push 5; return")}), api.ErrImage},
		{"nothing to return", img(fn(":i", "", "return")), api.ErrCode},
		{"no code", img(five(), fn("", "", "")), api.ErrCode},
		{"another type to return", second(fn(":f", "", "push 5; return")), api.ErrCode},
		{"no instruction", coded(code.Ins{Op: 18}), api.ErrCode},
		{"an instruction that is not right, and never come to", second(code.Fn{Code: []code.Ins{{Op: 11}, {Op: 2, N: 256}}}), api.ErrCode},
		{"no such function", second(fn("", "", "call 2; return")), api.ErrCode},
		{"no such variable", second(fn("", "", "load 0; return")), api.ErrCode},
		{"no such local", second(fn("i", "", "get 1; return")), api.ErrCode},
		{"no such instruction", second(fn("", "", "jump 1")), api.ErrCode},
		{"an end without return", second(fn("", "", "push 1")), api.ErrCode},
		{"two shapes", second(fn("", "", "push 1; jump 0")), api.ErrType},
		{"two shapes behind an unless", second(fn("", "", "push true; unless 3; push 1; return")), api.ErrType},
		{"too much on the stack", second(fn("", "", "push 1;"+string(slices.Repeat([]byte("push 1;"), 512))+"return")), api.ErrBig},
		{"too many parameters", second(fn("iiiiiiiii", "", "return")), api.ErrBig},
		{"too many locals", second(code.Fn{Locals: times(65, 1), Code: asm("return")}), api.ErrBig},
		{"too many instructions", coded(times(4097, code.Ins{Op: 11})...), api.ErrBig},
		{"other locals than parameters", second(code.Fn{Sig: code.Sig{Params: []int{1}}, Locals: []int{2}, Code: asm("return")}), api.ErrCode},
		{"no local for a parameter", second(code.Fn{Sig: code.Sig{Params: []int{1}}, Code: asm("return")}), api.ErrCode},
		{"a local of no type", second(code.Fn{Locals: []int{0}, Code: asm("return")}), api.ErrCode},
		{"a result of no type", second(code.Fn{Sig: code.Sig{Result: 4}, Code: asm("return")}), api.ErrCode},
	}
}

// mixer: the same numbers in each run.
type mixer uint64

func (m *mixer) next() uint64 {
	*m += 0x9e3779b97f4a7c15
	z := uint64(*m)
	z = (z ^ z>>30) * 0xbf58476d1ce4e5b9
	z = (z ^ z>>27) * 0x94d049bb133111eb
	return z ^ z>>31
}

// below: a number from 0 on that is below n.
func (m *mixer) below(n int) int {
	return int(m.next() % uint64(n))
}

func pick[T any](m *mixer, l []T) T {
	return l[m.below(len(l))]
}

// maker: makes functions that are right, of blocks that leave the stack as it was, and of values in between.
type maker struct {
	mixer
	f     code.Fn
	p     code.Frame
	depth int
}

func (m *maker) types(n int) []int {
	var l []int
	for range m.below(n + 1) {
		l = append(l, 1+m.below(3))
	}
	return l
}

// made: a right image.
func made(seed uint64) image.Image {
	m := maker{mixer: mixer(seed)}
	var i image.Image
	for range m.below(5) {
		v := pick(&m.mixer, rightValues())
		i.Vars, m.p.Vars = append(i.Vars, v), append(m.p.Vars, v.Type)
	}
	for range 1 + m.below(4) {
		m.p.Fns = append(m.p.Fns, code.Sig{Params: m.types(3), Result: m.below(4)})
	}
	i.Main = m.below(len(m.p.Fns))
	m.p.Fns[i.Main] = code.Sig{Result: api.TInt}
	for _, s := range m.p.Fns {
		m.f = code.Fn{Sig: s, Locals: append(slices.Clone(s.Params), m.types(4)...)}
		m.block()
		m.end()
		i.Fns = append(i.Fns, m.f)
	}
	return i
}

// emit: an instruction more; its place.
func (m *maker) emit(op, n int) int {
	m.f.Code = append(m.f.Code, code.Ins{Op: op, N: n})
	return len(m.f.Code) - 1
}

// here: the instruction at the place leads to what comes next.
func (m *maker) here(at int) {
	m.f.Code[at].N = len(m.f.Code)
}

func (m *maker) push(t int) {
	for {
		if v := pick(&m.mixer, rightValues()); v.Type == t {
			m.f.Code = append(m.f.Code, code.Ins{Op: 1, V: v})
			return
		}
	}
}

// value: puts a value of the type, made in one of several ways.
func (m *maker) value(t int) {
	m.depth++
	defer func() { m.depth-- }()
	way := m.below(7)
	if m.depth > 3 {
		way = 0
	}
	switch at := m.find(m.f.Locals, t); {
	case way == 1 && at >= 0:
		m.emit(2, at)
	case way == 2 && m.find(m.p.Vars, t) >= 0:
		m.emit(4, m.find(m.p.Vars, t))
	case way == 3 && t == api.TInt:
		m.emit(14, 0)
	case way == 4:
		m.operator(t)
	case way == 5 && m.call(t):
	default:
		m.push(t)
	}
}

// find: some place in the list that has this type; below 0, if none has.
func (m *maker) find(l []int, t int) int {
	if len(l) == 0 {
		return -1
	}
	from := m.below(len(l))
	for n := range l {
		if at := (from + n) % len(l); l[at] == t {
			return at
		}
	}
	return slices.Index(l, t)
}

// operator: puts what an operator makes; there is one of each type.
func (m *maker) operator(t int) {
	for {
		n, of := 1+m.below(11), 1+m.below(3)
		if m.below(3) == 0 {
			if got, e := types.Unary(n, of); e == api.OK && got == t {
				m.value(of)
				m.emit(6, n)
				return
			}
		} else if got, e := types.Binary(n, of, of); e == api.OK && got == t {
			m.value(of)
			m.value(of)
			m.emit(7, n)
			return
		}
	}
}

// call: of a function with this result, if there is one.
func (m *maker) call(result int) bool {
	at := slices.IndexFunc(m.p.Fns, func(s code.Sig) bool { return s.Result == result })
	if at < 0 {
		return false
	}
	for _, t := range m.p.Fns[at].Params {
		m.value(t)
	}
	m.emit(10, at)
	return true
}

// block: statements that leave the stack and the tries as they are.
func (m *maker) block() {
	m.depth++
	defer func() { m.depth-- }()
	for range 1 + m.below(3) {
		if m.depth > 3 {
			m.value(1 + m.below(3))
			m.emit(12+5*m.below(2), 0)
			continue
		}
		m.statement()
	}
}

func (m *maker) statement() {
	t := 1 + m.below(3)
	switch m.below(7) {
	case 0:
		m.value(t)
		m.emit(12, 0)
	case 1:
		if at := m.find(m.f.Locals, t); at >= 0 {
			m.value(t)
			m.emit(3, at)
		}
	case 2:
		if at := m.find(m.p.Vars, t); at >= 0 {
			m.value(t)
			m.emit(5, at)
		}
	case 3:
		m.call(api.TNone)
	case 4:
		m.value(api.TBool)
		other := m.emit(9, 0)
		m.block()
		m.here(other)
	case 5:
		again := len(m.f.Code)
		m.value(api.TBool)
		out := m.emit(9, 0)
		m.block()
		m.emit(8, again)
		m.here(out)
	case 6:
		caught := m.emit(15, 0)
		m.block()
		m.emit(16, 0)
		behind := m.emit(8, 0)
		m.here(caught)
		m.emit(17, 0)
		m.here(behind)
	}
}

// end: the function's end; at times with something behind it that is never come to.
func (m *maker) end() {
	if m.below(4) == 0 {
		m.value(api.TInt)
		m.emit(13, 0)
	} else {
		if m.f.Sig.Result != api.TNone {
			m.value(m.f.Sig.Result)
		}
		m.emit(11, 0)
	}
	for range m.below(3) {
		m.emit(8+m.below(10), 0)
	}
}

// near: the image in memory of its own with something about it changed, so that it may be not right any more.
func (m *mixer) near(i image.Image) image.Image {
	i = roomy(i)
	number := pick(m, []int{0, 1, 2, 3, 4, -1, 5, 257, 65537, math.MaxInt})
	switch m.below(6) {
	case 0:
		i.Main = number
	case 1:
		if len(i.Vars) == 0 {
			i.Vars = append(i.Vars, pick(m, wrongValues()))
			break
		}
		v := &i.Vars[m.below(len(i.Vars))]
		*v = pick(m, []api.Value{{Type: number, Bits: v.Bits}, {Type: v.Type, Bits: pick(m, []uint64{0, 1, 2, math.MaxUint64})}, pick(m, rightValues())})
	case 2:
		at := m.below(len(i.Fns))
		i.Fns = slices.Delete(i.Fns, at, at+1)
	default:
		m.turnFn(&i.Fns[m.below(len(i.Fns))], number)
	}
	return i
}

func (m *mixer) turnFn(f *code.Fn, number int) {
	if len(f.Code) == 0 {
		f.Code = append(f.Code, code.Ins{Op: 11})
	}
	at := m.below(len(f.Code))
	switch m.below(8) {
	case 0:
		f.Sig.Params = append(f.Sig.Params, number)
	case 1:
		f.Sig.Result = number
	case 2:
		f.Locals = append(f.Locals, number)
	case 3:
		f.Sig.Params = nil
	case 4:
		f.Code[at].N = number
	case 5:
		f.Code[at] = pick(m, []code.Ins{{Op: 11}, {Op: 12}, {Op: 14}, {Op: 16}, {Op: 17}, {Op: 18}, {Op: 2, N: 256}, {Op: 8}, {Op: 10, N: 1}, {Op: 1, V: num(1)}})
	case 6:
		f.Code = slices.Delete(f.Code, at, at+1)
	case 7:
		f.Code = slices.Insert(f.Code, at, code.Ins{Op: 14}, code.Ins{Op: 17})
	}
}
