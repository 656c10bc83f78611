package vm

import (
	"slices"

	"foundry/api"
	"foundry/source"
)

// call: of a function, at work.
type call struct {
	fn, at int // at: the instruction that comes next
	locals []api.Value
	stack  []api.Value
	tries  []try // that are open, the last one opened last
}

// try: what a trap comes back to. It has the values themselves that the stack had: code that is right may take some of them, and put others in their place, while the try is open.
type try struct {
	at    int
	stack []api.Value
}

// trap goes up where an instruction can't do what it does. A type of its own tells it from all else that may panic.
type trap struct {
	kind  int
	value int64
}

func (c *call) clone() *call {
	other := *c
	other.locals, other.stack, other.tries = slices.Clone(c.locals), slices.Clone(c.stack), slices.Clone(c.tries)
	for at := range other.tries {
		t := &other.tries[at]
		t.stack = slices.Clone(t.stack)
	}
	return &other
}

func (c *call) push(v api.Value) {
	c.stack = append(c.stack, v)
}

func (c *call) pop() api.Value {
	return c.take(1)[0]
}

// take: the topmost n values, which stand where they stood till something is put onto the stack.
func (c *call) take(n int) []api.Value {
	at := len(c.stack) - n
	l := c.stack[at:]
	c.stack = c.stack[:at]
	return l
}

// last: the call whose instruction comes next.
func (m *Machine) last() *call {
	return m.calls[len(m.calls)-1]
}

// enter: one more call, with the arguments as its first locals.
func (m *Machine) enter(fn int, args []api.Value) {
	if len(m.calls) == api.MaxCalls {
		panic(trap{kind: api.TrapDeep})
	}
	c := &call{fn: fn, locals: slices.Clone(args)}
	for _, t := range m.fns[fn].Locals[len(args):] {
		c.locals = append(c.locals, api.Value{Type: t})
	}
	m.calls = append(m.calls, c)
}

// leave: the last call is gone.
func (m *Machine) leave() {
	c := m.last()
	m.calls = m.calls[:len(m.calls)-1]
	switch {
	case len(m.calls) == 0:
		m.outcome = api.Outcome{Kind: api.Halted, Value: int64(c.pop().Bits)}
	case m.fns[c.fn].Sig.Result != api.TNone:
		m.last().push(c.pop())
	}
}

// step: the instruction of the last call. One that traps puts nothing ahead of that, so what it took still stands in the stack's memory, and it is enough to look at it as ahead.
func (m *Machine) step(do *[ops]action) {
	c := m.last()
	ahead := *c
	defer func() {
		switch p := recover().(type) {
		case nil:
		case trap:
			*c = ahead
			m.trapped(p)
		default:
			panic(p)
		}
	}()
	i := m.fns[c.fn].Code[c.at]
	m.steps++
	c.at++
	do[i.Op](m, c, i)
}

// trapped: goes on at the try that is next for the trap; if there is none, the machine is Trapped.
func (m *Machine) trapped(p trap) {
	at := len(m.calls) - 1
	for at >= 0 && len(m.calls[at].tries) == 0 {
		at--
	}
	if at < 0 || p.kind == api.TrapTrace {
		m.outcome = api.Outcome{Kind: api.Trapped, Trap: p.kind, Value: p.value}
		return
	}
	m.calls = m.calls[:at+1]
	m.last().goOn(source.Bound(p.kind, p.value))
}

// goOn: at the try that was opened last, which is closed, with what it is given of the trap.
func (c *call) goOn(bound int64) {
	t := c.closed()
	c.at, c.stack = t.at, t.stack
	c.push(whole(bound))
}

// closed: the try that was opened last, no longer open.
func (c *call) closed() try {
	at := len(c.tries) - 1
	t := c.tries[at]
	c.tries = c.tries[:at]
	return t
}

func whole(n int64) api.Value {
	return api.Value{Type: api.TInt, Bits: uint64(n)}
}
