package code_test

import (
	"slices"

	"foundry/api"
	"foundry/code"
	"foundry/types"
)

// maker: makes functions that are right, of blocks that leave the stack as it was, and of values in between.
type maker struct {
	mixer
	f     code.Fn
	p     code.Frame
	stack []int
	open  int
	depth int
}

func (m *maker) types(n int) []int {
	var l []int
	for range m.below(n + 1) {
		l = append(l, 1+m.below(3))
	}
	return l
}

func (m *maker) sig() code.Sig {
	return code.Sig{Params: m.types(3), Result: m.below(4)}
}

// made: a right function and the program that it stands in.
func made(seed uint64) (code.Fn, code.Frame) {
	m := maker{mixer: mixer(seed)}
	for range 1 + m.below(4) {
		m.p.Fns = append(m.p.Fns, m.sig())
	}
	m.p.Vars = m.types(4)
	m.f.Sig = m.sig()
	m.f.Locals = append(slices.Clone(m.f.Sig.Params), m.types(4)...)
	m.block()
	m.end()
	return m.f, m.p
}

// emit: an instruction more; its place.
func (m *maker) emit(op, n int) int {
	m.f.Code = append(m.f.Code, code.Ins{Op: op, N: n})
	return len(m.f.Code) - 1
}

// here: the instruction at the place leads to what comes next.
func (m *maker) here(at int) {
	m.f.Code[at].N = len(m.f.Code)
}

func (m *maker) put(t int) {
	m.stack = append(slices.Clone(m.stack), t)
}

func (m *maker) drop(n int) {
	m.stack = slices.Clone(m.stack[:len(m.stack)-n])
}

// value: puts a value of the type, made in one of several ways.
func (m *maker) value(t int) {
	m.depth++
	defer func() { m.depth-- }()
	way := m.below(8)
	if m.depth > 3 {
		way = 0
	}
	ins := code.Ins{Op: 1, V: []api.Value{1: num(int64(m.below(9))), 2: float(1.5), 3: truth(m.below(2) == 0)}[t]}
	switch way {
	case 1:
		if at := m.find(m.f.Locals, t); at >= 0 {
			ins = code.Ins{Op: 2, N: at}
		}
	case 2:
		if at := m.find(m.p.Vars, t); at >= 0 {
			ins = code.Ins{Op: 4, N: at}
		}
	case 3:
		if t == api.TInt {
			ins = code.Ins{Op: 14}
		}
	case 4, 5:
		m.operator(t)
		return
	case 6:
		if m.call(t) {
			return
		}
	case 7:
		m.choice(t)
		return
	}
	m.f.Code = append(m.f.Code, ins)
	m.put(t)
}

// find: some place in the list that has this type; below 0, if none has.
func (m *maker) find(l []int, t int) int {
	if len(l) == 0 {
		return -1
	}
	from := m.below(len(l))
	for n := range l {
		if at := (from + n) % len(l); l[at] == t {
			return at
		}
	}
	return -1
}

// operator: puts what an operator makes; there is one of each type.
func (m *maker) operator(t int) {
	for {
		n, of := 1+m.below(11), 1+m.below(3)
		if m.below(3) == 0 {
			if got, e := types.Unary(n, of); e == api.OK && got == t {
				m.value(of)
				m.emit(6, n)
				m.drop(1)
				break
			}
		} else if got, e := types.Binary(n, of, of); e == api.OK && got == t {
			m.value(of)
			m.value(of)
			m.emit(7, n)
			m.drop(2)
			break
		}
	}
	m.put(t)
}

// call: of a function with this result, if there is one.
func (m *maker) call(result int) bool {
	at := slices.IndexFunc(m.p.Fns, func(s code.Sig) bool { return s.Result == result })
	if at < 0 {
		return false
	}
	for _, t := range m.p.Fns[at].Params {
		m.value(t)
	}
	m.emit(10, at)
	m.drop(len(m.p.Fns[at].Params))
	if result != api.TNone {
		m.put(result)
	}
	return true
}

// choice: puts one of two values.
func (m *maker) choice(t int) {
	m.value(api.TBool)
	other := m.emit(9, 0)
	m.drop(1)
	m.value(t)
	behind := m.emit(8, 0)
	m.drop(1)
	m.here(other)
	m.value(t)
	m.here(behind)
}

// block: statements that leave the stack and the tries as they are.
func (m *maker) block() {
	m.depth++
	defer func() { m.depth-- }()
	for range 1 + m.below(4) {
		if m.depth > 3 {
			m.value(1 + m.below(3))
			m.emit(12+5*m.below(2), 0)
			m.drop(1)
			continue
		}
		m.statement()
	}
}

func (m *maker) statement() {
	t := 1 + m.below(3)
	switch m.below(9) {
	case 0:
		m.value(t)
		m.emit(12, 0)
		m.drop(1)
	case 1:
		if at := m.find(m.f.Locals, t); at >= 0 {
			m.value(t)
			m.emit(3, at)
			m.drop(1)
		}
	case 2:
		if at := m.find(m.p.Vars, t); at >= 0 {
			m.value(t)
			m.emit(5, at)
			m.drop(1)
		}
	case 3:
		m.call(api.TNone)
	case 4:
		m.value(api.TBool)
		other := m.emit(9, 0)
		m.drop(1)
		m.block()
		m.here(other)
	case 5:
		again := len(m.f.Code)
		m.value(api.TBool)
		out := m.emit(9, 0)
		m.drop(1)
		m.block()
		m.emit(8, again)
		m.here(out)
	case 6, 7:
		m.try()
	case 8:
		m.value(t)
		m.block()
		m.emit(17, 0)
		m.drop(1)
	}
}

func (m *maker) try() {
	caught := m.emit(15, 0)
	m.open++
	m.block()
	m.emit(16, 0)
	m.open--
	behind := m.emit(8, 0)
	m.here(caught)
	m.put(api.TInt)
	m.emit(17, 0)
	m.drop(1)
	m.block()
	m.here(behind)
}

// end: the function's end, of one of several kinds; at times with something behind it that is never come to.
func (m *maker) end() {
	switch m.below(4) {
	case 0:
		m.value(api.TInt)
		m.emit(13, 0)
	case 1:
		m.emit(8, len(m.f.Code))
	default:
		if m.f.Sig.Result != api.TNone {
			m.value(m.f.Sig.Result)
		}
		m.emit(11, 0)
	}
	for range m.below(3) {
		m.f.Code = append(m.f.Code, randomIns(&m.mixer))
	}
}

// copyFn: the function with code of its own.
func copyFn(f code.Fn) code.Fn {
	f.Code = slices.Clone(f.Code)
	return f
}

// turned: the function with one thing changed.
func turned(m *mixer, f code.Fn) code.Fn {
	f = copyFn(f)
	at := m.below(len(f.Code))
	switch m.below(7) {
	case 0:
		f.Code[at] = randomIns(m)
	case 1:
		f.Code[at].N = m.below(len(f.Code) + 1)
	case 2:
		f.Code = slices.Delete(f.Code, at, at+1)
	case 3:
		f.Code = slices.Insert(f.Code, at, randomIns(m))
	case 4:
		f.Code[at] = code.Ins{Op: 8 + m.below(2), N: m.below(len(f.Code))}
	case 5:
		f.Code[at] = code.Ins{Op: 11 + m.below(7)}
		if f.Code[at].Op == 15 {
			f.Code[at].N = m.below(len(f.Code))
		}
	case 6:
		f.Sig.Result = m.below(4)
	}
	return f
}
