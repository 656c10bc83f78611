package vm

import (
	"slices"

	"foundry/api"
	"foundry/code"
	"foundry/fold"
)

// The Ops of layer 14.
const (
	_ = iota
	opPush
	opGet
	opPut
	opLoad
	opStore
	opUn
	opBin
	opJump
	opUnless
	opCall
	opReturn
	opShow
	opFail
	opInput
	opTry
	opUntry
	opDrop
	ops // behind the last one
)

// action: what an instruction does in the last call, which stands behind it already. One that traps has put nothing yet.
type action func(m *Machine, c *call, i code.Ins)

// actions: those of all Ops.
func actions() [ops]action {
	return [ops]action{
		opPush:   func(_ *Machine, c *call, i code.Ins) { c.push(i.V) },
		opGet:    func(_ *Machine, c *call, i code.Ins) { c.push(c.locals[i.N]) },
		opPut:    func(_ *Machine, c *call, i code.Ins) { c.locals[i.N] = c.pop() },
		opLoad:   func(m *Machine, c *call, i code.Ins) { c.push(m.vars[i.N]) },
		opStore:  func(m *Machine, c *call, i code.Ins) { m.vars[i.N] = c.pop() },
		opUn:     doUn,
		opBin:    doBin,
		opJump:   func(_ *Machine, c *call, i code.Ins) { c.at = i.N },
		opUnless: doUnless,
		opCall:   doCall,
		opReturn: func(m *Machine, _ *call, _ code.Ins) { m.leave() },
		opShow:   doShow,
		opFail:   doFail,
		opInput:  doInput,
		opTry:    doTry,
		opUntry:  func(_ *Machine, c *call, _ code.Ins) { c.closed() },
		opDrop:   func(_ *Machine, c *call, _ code.Ins) { c.pop() },
	}
}

func doUn(_ *Machine, c *call, i code.Ins) {
	c.push(untrapped(fold.Un(i.N, c.pop())))
}

func doBin(_ *Machine, c *call, i code.Ins) {
	two := c.take(2)
	c.push(untrapped(fold.Bin(i.N, two[0], two[1])))
}

// untrapped lets the value of an operator through, and its trap go up.
func untrapped(v api.Value, kind int) api.Value {
	if kind != 0 {
		panic(trap{kind: kind})
	}
	return v
}

func doUnless(_ *Machine, c *call, i code.Ins) {
	if c.pop().Bits == 0 {
		c.at = i.N
	}
}

func doCall(m *Machine, c *call, i code.Ins) {
	m.enter(i.N, c.take(len(m.fns[i.N].Sig.Params)))
}

func doShow(m *Machine, c *call, _ code.Ins) {
	v := c.pop()
	if len(m.trace) == api.MaxTrace {
		panic(trap{kind: api.TrapTrace})
	}
	m.trace = append(m.trace, v)
}

func doFail(_ *Machine, c *call, _ code.Ins) {
	panic(trap{kind: api.TrapFail, value: int64(c.pop().Bits)})
}

func doInput(m *Machine, c *call, _ code.Ins) {
	if m.taken == len(m.input) {
		panic(trap{kind: api.TrapInput})
	}
	c.push(whole(m.input[m.taken]))
	m.taken++
}

// doTry: the try has the stack's values as they are now.
func doTry(_ *Machine, c *call, i code.Ins) {
	c.tries = append(c.tries, try{i.N, slices.Clone(c.stack)})
}
