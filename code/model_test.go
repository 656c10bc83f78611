package code_test

import (
	"encoding/binary"
	"fmt"
	"slices"
	"sort"

	"foundry/api"
	"foundry/code"
	"foundry/types"
)

// A model of the chapter's words, which takes no short way: shapes are lists, compared by their texts, and each instruction has its own case.

func modelRight(i code.Ins) bool {
	if i.Op < 1 || i.Op > lastOp {
		return false
	}
	r := opRows[i.Op]
	if i.N < r.least || i.N > r.most {
		return false
	}
	if i.Op == 1 {
		return types.Right(i.V)
	}
	return i.V.Type == 0 && i.V.Bits == 0
}

// modelBytes: the bytes of a right instruction.
func modelBytes(i code.Ins) []byte {
	b := []byte{byte(i.Op)}
	switch opRows[i.Op].bytes {
	case 9:
		return binary.BigEndian.AppendUint64(append(b, byte(i.V.Type)), i.V.Bits)
	case 2:
		return binary.BigEndian.AppendUint16(b, uint16(i.N))
	case 1:
		return append(b, byte(i.N))
	}
	return b
}

// modelDecode: the bytes are cut into pieces of the right sizes, then each piece is asked whether it is an instruction's.
func modelDecode(b []byte) ([]code.Ins, api.Errno) {
	var l []code.Ins
	for len(b) > 0 {
		if b[0] < 1 || b[0] > lastOp || len(b) < 1+opRows[b[0]].bytes {
			return nil, api.ErrCode
		}
		piece := b[:1+opRows[b[0]].bytes]
		b = b[len(piece):]
		i := code.Ins{Op: int(piece[0])}
		switch len(piece) {
		case 10:
			i.V = api.Value{Type: int(piece[1]), Bits: binary.BigEndian.Uint64(piece[2:])}
		case 3:
			i.N = int(binary.BigEndian.Uint16(piece[1:]))
		case 2:
			i.N = int(piece[1])
		}
		if !modelRight(i) {
			return nil, api.ErrCode
		}
		if l = append(l, i); len(l) > code.MaxCode {
			return nil, api.ErrBig
		}
	}
	return l, api.OK
}

// modelText: of a right instruction.
func modelText(i code.Ins) string {
	name := opRows[i.Op].name
	switch i.Op {
	case 1:
		return fmt.Sprintf("%s %s", name, types.Show(i.V))
	case 6:
		return name + " " + unWords[i.N]
	case 7:
		return name + " " + binWords[i.N]
	case 11, 12, 13, 14, 16, 17:
		return name
	}
	return fmt.Sprintf("%s %d", name, i.N)
}

type modelTry struct {
	n     int
	stack []int
}

type modelShape struct {
	stack []int
	tries []modelTry
}

func (s modelShape) key() string {
	return fmt.Sprint(s.stack, s.tries)
}

// modelWay: a place to which an instruction leads.
type modelWay struct {
	at    int
	shape modelShape
}

// modelStep: an instruction at work on a shape. What goes wrong is noted in lacks, and the rest goes on with what is there.
type modelStep struct {
	fn    code.Fn
	all   code.Frame
	shape modelShape
	lacks bool
	ways  []modelWay
}

func (m *modelStep) pop() int {
	s := m.shape.stack
	if len(s) == 0 {
		m.lacks = true
		return 0
	}
	m.shape.stack = s[:len(s)-1]
	return s[len(s)-1]
}

func (m *modelStep) popA(t int) {
	if m.pop() != t {
		m.lacks = true
	}
}

func (m *modelStep) push(t int) {
	m.shape.stack = append(slices.Clone(m.shape.stack), t)
}

// at: the element of a list that has to be there.
func at[T any](m *modelStep, l []T, n int) T {
	if n >= len(l) {
		m.lacks = true
		var none T
		return none
	}
	return l[n]
}

func (m *modelStep) lead(to int, s modelShape) {
	if to >= len(m.fn.Code) {
		m.lacks = true
	}
	m.ways = append(m.ways, modelWay{to, s})
}

func (m *modelStep) made(t int, e api.Errno) {
	if e != api.OK {
		m.lacks = true
	}
	m.push(t)
}

// run: the step of the instruction at the place; its ways stand in the order in which they are noted.
func (m *modelStep) run(place int) {
	i := m.fn.Code[place]
	switch i.Op {
	case 1:
		m.push(i.V.Type)
	case 2:
		m.push(at(m, m.fn.Locals, i.N))
	case 3:
		m.popA(at(m, m.fn.Locals, i.N))
	case 4:
		m.push(at(m, m.all.Vars, i.N))
	case 5:
		m.popA(at(m, m.all.Vars, i.N))
	case 6:
		m.made(types.Unary(i.N, m.pop()))
	case 7:
		second := m.pop()
		first := m.pop()
		m.made(types.Binary(i.N, first, second))
	case 8:
		m.lead(i.N, m.shape)
		return
	case 9:
		m.popA(api.TBool)
		m.lead(place+1, m.shape)
		m.lead(i.N, m.shape)
		return
	case 10:
		called := at(m, m.all.Fns, i.N)
		for _, t := range slices.Backward(called.Params) {
			m.popA(t)
		}
		if called.Result != api.TNone {
			m.push(called.Result)
		}
	case 11:
		if m.fn.Sig.Result != api.TNone {
			m.popA(m.fn.Sig.Result)
		}
		return
	case 12, 17:
		m.pop()
	case 13:
		m.popA(api.TInt)
		return
	case 14:
		m.push(api.TInt)
	case 15:
		ahead := m.shape
		m.push(api.TInt)
		caught := m.shape
		m.shape = modelShape{ahead.stack, append(slices.Clone(ahead.tries), modelTry{i.N, ahead.stack})}
		m.lead(place+1, m.shape)
		m.lead(i.N, caught)
		return
	case 16:
		if len(m.shape.tries) == 0 {
			m.lacks = true
			return
		}
		m.shape.tries = m.shape.tries[:len(m.shape.tries)-1]
	}
	m.lead(place+1, m.shape)
}

func modelOfValues(l []int) bool {
	for _, t := range l {
		if t != api.TInt && t != api.TFloat && t != api.TBool {
			return false
		}
	}
	return true
}

func modelSig(s code.Sig) bool {
	return modelOfValues(s.Params) && (s.Result == api.TNone || modelOfValues([]int{s.Result}))
}

// modelOutline: what is asked ahead of going through.
func modelOutline(f code.Fn, p code.Frame) (int, api.Errno) {
	if len(f.Sig.Params) > 8 || len(f.Locals) > 64 || len(f.Code) > 4096 {
		return 0, api.ErrBig
	}
	right := len(f.Code) > 0 && modelSig(f.Sig) && modelOfValues(f.Locals) && modelOfValues(p.Vars)
	for n, t := range f.Sig.Params {
		right = right && n < len(f.Locals) && f.Locals[n] == t
	}
	for _, s := range p.Fns {
		right = right && modelSig(s)
	}
	if !right {
		return 0, api.ErrCode
	}
	for n, i := range f.Code {
		if !modelRight(i) {
			return n, api.ErrCode
		}
	}
	return 0, api.OK
}

// modelVerify: with the shapes by their places, if the function is right.
func modelVerify(f code.Fn, p code.Frame) (map[int]modelShape, int, api.Errno) {
	if n, e := modelOutline(f, p); e != api.OK {
		return nil, n, e
	}
	shapes := map[int]modelShape{0: {}}
	waiting := []int{0}
	for len(waiting) > 0 {
		sort.Ints(waiting)
		place := waiting[0]
		waiting = waiting[1:]
		m := modelStep{fn: f, all: p, shape: shapes[place]}
		m.run(place)
		if m.lacks {
			return nil, place, api.ErrCode
		}
		for _, w := range m.ways {
			if len(w.shape.stack) > 512 || len(w.shape.tries) > 32 {
				return nil, place, api.ErrBig
			}
		}
		for _, w := range m.ways {
			there, seen := shapes[w.at]
			if seen && there.key() != w.shape.key() {
				return nil, place, api.ErrType
			}
			if !seen {
				shapes[w.at] = w.shape
				waiting = append(waiting, w.at)
			}
		}
	}
	return shapes, 0, api.OK
}
