package source

import "foundry/api"

// run: a run of a program that is at work.
type run struct {
	input        []int64 // the numbers that are left
	asked, steps int
	calls        int // within one another
	vars         []api.Value
	trace        []api.Value
	over         bool // what goes up now is for no try
}

// call: of a function, at work.
type call struct {
	*run
	slots  []api.Value
	result api.Value
}

// trap goes up where a run can't go on, spent where it has made all its steps. Types of their own tell them from all else that may panic.
type (
	trap struct {
		kind  int
		value int64
	}
	spent struct{}
)

// outcomeOf: how the run stands behind a call of main.
func (r *run) outcomeOf(main *function) (outcome api.Outcome) {
	defer func() {
		switch p := recover().(type) {
		case nil:
		case trap:
			outcome = api.Outcome{Kind: api.Trapped, Trap: p.kind, Value: p.value}
		case spent:
			outcome = api.Outcome{Kind: api.Running}
		default:
			panic(p)
		}
	}()
	result := r.enter(main, make([]api.Value, main.slots))
	return api.Outcome{Kind: api.Halted, Value: int64(result.Bits)}
}

// enter: a call with the arguments as the first slots; its result, the zero value if it has none.
func (r *run) enter(fn *function, slots []api.Value) api.Value {
	if r.calls == api.MaxCalls {
		panic(trap{kind: api.TrapDeep})
	}
	r.step()
	r.calls++
	c := call{run: r, slots: slots}
	fn.body(&c)
	r.calls--
	return c.result
}

// step: one more, if there is one left.
func (r *run) step() {
	if r.steps == r.asked {
		r.over = true
		panic(spent{})
	}
	r.steps++
}

// next: the number of input that comes next.
func (r *run) next() api.Value {
	if len(r.input) == 0 {
		panic(trap{kind: api.TrapInput})
	}
	n := r.input[0]
	r.input = r.input[1:]
	return whole(n)
}

func (r *run) show(v api.Value) {
	if len(r.trace) == api.MaxTrace {
		r.over = true
		panic(trap{kind: api.TrapTrace})
	}
	r.trace = append(r.trace, v)
}

// try: is the call over behind the body? Or the trap that came up to it, and true.
func (c *call) try(body action) (over bool, came trap, trapped bool) {
	calls := c.calls
	defer func() {
		// What is for no try goes on by itself: stopped here and sent up anew, it would cost more at each of many tries.
		if c.over {
			return
		}
		switch p := recover().(type) {
		case nil:
		case trap:
			came, trapped = p, true
			c.calls = calls
		default:
			panic(p)
		}
	}()
	return body(c), trap{}, false
}

func whole(n int64) api.Value {
	return api.Value{Type: api.TInt, Bits: uint64(n)}
}

func isTrue(v api.Value) bool {
	return v.Bits == 1
}

// untrapped lets the value of an operator through, and its trap go up.
func untrapped(v api.Value, kind int) api.Value {
	if kind != 0 {
		panic(trap{kind: kind})
	}
	return v
}
