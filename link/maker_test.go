package link_test

import (
	"math"
	"slices"

	"foundry/api"
	"foundry/code"
	"foundry/object"
	"foundry/types"
)

// mixer: the same numbers in each run.
type mixer uint64

func (x *mixer) next() uint64 {
	*x += 0x9e3779b97f4a7c15
	z := uint64(*x)
	z = (z ^ z>>30) * 0xbf58476d1ce4e5b9
	z = (z ^ z>>27) * 0x94d049bb133111eb
	return z ^ z>>31
}

// below: a number from 0 on that is below n.
func (x *mixer) below(n int) int {
	return int(x.next() % uint64(n))
}

func pick[T any](x *mixer, l []T) T {
	return l[x.below(len(l))]
}

func shuffle[T any](x *mixer, l []T) {
	for at := range l {
		other := at + x.below(len(l)-at)
		l[at], l[other] = l[other], l[at]
	}
}

// shuffled: the list in some other order, in memory of its own.
func shuffled[T any](x *mixer, l []T) []T {
	l = slices.Clone(l)
	shuffle(x, l)
	return l
}

// called: a function that may be called, of whatever module.
type called struct {
	mod, name string
	sig       code.Sig
}

// maker: makes objects whose functions are right, of blocks that leave the stack as it was, and of values in between.
type maker struct {
	mixer
	fns   []called
	o     *object.Object
	at    int // of the function in the object
	f     *code.Fn
	depth int
}

// made: right objects that have an image, in any order. Modules share names, of each Kind.
func made(seed uint64) []object.Object {
	m := maker{mixer: mixer(seed)}
	modules := shuffled(&m.mixer, []string{"a", "k", "z", "B", "main0", "_", "mai", "zz"})[:m.below(6)]
	modules = append(modules, "main")
	shuffle(&m.mixer, modules)
	l := make([]object.Object, len(modules))
	for at, name := range modules {
		m.declare(&l[at], name)
	}
	for at := range l {
		m.o = &l[at]
		for m.at = range m.o.Fns {
			m.f = &m.o.Fns[m.at].Fn
			m.block()
			m.end()
		}
	}
	return l
}

// declare: the object with all but its code.
func (m *maker) declare(o *object.Object, module string) {
	o.Module = module
	for _, name := range shuffled(&m.mixer, []string{"a", "f", "g", "k", "main", "main0", "v", "w"}) {
		sig := code.Sig{Params: m.types(3), Result: m.below(4)}
		isMain := module == "main" && name == "main"
		if isMain {
			sig = code.Sig{Result: api.TInt}
		}
		kind := m.below(3)
		switch {
		case isMain || kind == 1:
			o.Fns = append(o.Fns, object.Fn{Name: name, Fn: code.Fn{Sig: sig, Locals: append(slices.Clone(sig.Params), m.types(4)...)}})
			m.fns = append(m.fns, called{module, name, sig})
		case kind == 2:
			o.Vars = append(o.Vars, object.Var{Name: name, Value: pick(&m.mixer, rightValues())})
		}
	}
	switch m.below(8) {
	case 0:
		o.Vars = nil
	case 1:
		if module != "main" {
			m.fns = m.fns[:len(m.fns)-len(o.Fns)]
			o.Fns = nil
		}
	}
}

func (m *maker) types(n int) []int {
	var l []int
	for range m.below(n + 1) {
		l = append(l, 1+m.below(3))
	}
	return l
}

// emit: an instruction more; its place.
func (m *maker) emit(op, n int) int {
	m.f.Code = append(m.f.Code, code.Ins{Op: op, N: n})
	return len(m.f.Code) - 1
}

// open: an open place more.
func (m *maker) open(op int, mod, name string) {
	m.o.Relocs = append(m.o.Relocs, object.Reloc{Fn: m.at, At: m.emit(op, 0), Kind: kindOf(op), Mod: mod, Name: name})
}

// here: the instruction at the place leads to what comes next.
func (m *maker) here(at int) {
	m.f.Code[at].N = len(m.f.Code)
}

func (m *maker) push(t int) {
	for {
		if v := pick(&m.mixer, rightValues()); v.Type == t {
			m.f.Code = append(m.f.Code, code.Ins{Op: 1, V: v})
			return
		}
	}
}

// value: puts a value of the type, made in one of several ways.
func (m *maker) value(t int) {
	m.depth++
	defer func() { m.depth-- }()
	way := m.below(8)
	if m.depth > 3 {
		way = 0
	}
	at := m.local(t)
	switch {
	case way == 1 && at >= 0:
		m.emit(2, at)
	case way == 2 && m.variable(4, t):
	case way == 3 && t == api.TInt:
		m.emit(14, 0)
	case way == 4:
		m.operator(t)
	case way >= 5 && m.call(t):
	default:
		m.push(t)
	}
}

// local: some local of this type; below 0, if none has it.
func (m *maker) local(t int) int {
	var fit []int
	for at, of := range m.f.Locals {
		if of == t {
			fit = append(fit, at)
		}
	}
	if len(fit) == 0 {
		return -1
	}
	return pick(&m.mixer, fit)
}

// variable: a load or store of some variable of this type, if there is one.
func (m *maker) variable(op, t int) bool {
	var fit []string
	for _, v := range m.o.Vars {
		if v.Value.Type == t {
			fit = append(fit, v.Name)
		}
	}
	if len(fit) == 0 {
		return false
	}
	if op == 5 {
		m.value(t)
	}
	m.open(op, m.o.Module, pick(&m.mixer, fit))
	return true
}

// operator: puts what an operator makes; there is one of each type.
func (m *maker) operator(t int) {
	for {
		n, of := 1+m.below(11), 1+m.below(3)
		if m.below(3) == 0 {
			if got, e := types.Unary(n, of); e == api.OK && got == t {
				m.value(of)
				m.emit(6, n)
				return
			}
		} else if got, e := types.Binary(n, of, of); e == api.OK && got == t {
			m.value(of)
			m.value(of)
			m.emit(7, n)
			return
		}
	}
}

// call: of some function with this result, if there is one.
func (m *maker) call(result int) bool {
	var fit []called
	for _, c := range m.fns {
		if c.sig.Result == result {
			fit = append(fit, c)
		}
	}
	if len(fit) == 0 {
		return false
	}
	c := pick(&m.mixer, fit)
	for _, t := range c.sig.Params {
		m.value(t)
	}
	m.open(10, c.mod, c.name)
	return true
}

// block: statements that leave the stack and the tries as they are.
func (m *maker) block() {
	m.depth++
	defer func() { m.depth-- }()
	for range 1 + m.below(3) {
		if m.depth > 3 {
			m.value(1 + m.below(3))
			m.emit(12+5*m.below(2), 0)
			continue
		}
		m.statement()
	}
}

func (m *maker) statement() {
	t := 1 + m.below(3)
	switch m.below(6) {
	case 0:
		if at := m.local(t); at >= 0 {
			m.value(t)
			m.emit(3, at)
		}
	case 1:
		m.variable(5, t)
	case 2:
		m.call(api.TNone)
	case 3:
		m.value(api.TBool)
		other := m.emit(9, 0)
		m.block()
		m.here(other)
	case 4:
		again := len(m.f.Code)
		m.value(api.TBool)
		out := m.emit(9, 0)
		m.block()
		m.emit(8, again)
		m.here(out)
	case 5:
		caught := m.emit(15, 0)
		m.block()
		m.emit(16, 0)
		behind := m.emit(8, 0)
		m.here(caught)
		m.emit(17, 0)
		m.here(behind)
	}
}

// end: the function's end; at times with something behind it that is never come to.
func (m *maker) end() {
	if m.below(4) == 0 {
		m.value(api.TInt)
		m.emit(13, 0)
	} else {
		if m.f.Sig.Result != api.TNone {
			m.value(m.f.Sig.Result)
		}
		m.emit(11, 0)
	}
	for range m.below(3) {
		switch m.below(3) {
		case 0:
			m.call(m.below(4))
		case 1:
			m.variable(4, 1+m.below(3))
		case 2:
			m.emit(pick(&m.mixer, []int{8, 11, 12, 16, 17}), 0)
		}
	}
}

// near: the objects in memory of their own with something about them changed, so that they may have no image any more.
func (x *mixer) near(l []object.Object) []object.Object {
	l = roomy(l)
	if len(l) == 0 {
		return l
	}
	at := x.below(len(l))
	o := &l[at]
	switch x.below(8) {
	case 0:
		return slices.Delete(l, at, at+1)
	case 1:
		return append(l, roomyObject(*o))
	case 2:
		o.Module = pick(x, []string{"main", "a", "k", "z", "if", "", "zzz"})
	case 3:
		if len(o.Vars) > 0 {
			x.turnVar(&o.Vars[x.below(len(o.Vars))])
		}
	case 4, 5:
		if len(o.Fns) > 0 {
			x.turnFn(&o.Fns[x.below(len(o.Fns))])
		}
	default:
		if len(o.Relocs) > 0 {
			x.turnReloc(&o.Relocs[x.below(len(o.Relocs))])
		}
	}
	return l
}

func (x *mixer) turnVar(v *object.Var) {
	switch x.below(3) {
	case 0:
		v.Name = pick(x, []string{"a", "f", "main", "if", "v0"})
	case 1:
		v.Value = pick(x, rightValues())
	case 2:
		v.Value.Type = x.below(5)
	}
}

func (x *mixer) turnFn(f *object.Fn) {
	g := &f.Fn
	at := x.below(len(g.Code))
	switch x.below(6) {
	case 0:
		f.Name = pick(x, []string{"a", "f", "g", "main", "if", "f0"})
	case 1:
		g.Sig.Params, g.Locals = append([]int{1}, g.Sig.Params...), append([]int{1}, g.Locals...)
	case 2:
		g.Sig.Result = x.below(5)
	case 3:
		g.Locals = nil
	case 4, 5:
		if kindOf(g.Code[at].Op) == 0 {
			g.Code[at] = pick(x, []code.Ins{{Op: 11}, {Op: 12}, {Op: 14}, {Op: 16}, {Op: 17}, {Op: 18}, {Op: 2, N: 256}, {Op: 8}, {Op: 8, N: 4095}, {Op: 1, V: num(1)}})
		}
	}
}

func (x *mixer) turnReloc(r *object.Reloc) {
	switch x.below(5) {
	case 0:
		r.Mod = pick(x, []string{"main", "a", "k", "z", "nobody", "if"})
	case 1, 2:
		r.Name = pick(x, []string{"a", "f", "g", "k", "v", "w", "main", "nobody"})
	case 3:
		r.Kind = 3 - r.Kind
	case 4:
		r.At = pick(x, []int{0, r.At + 1, -1, math.MaxInt})
	}
}
