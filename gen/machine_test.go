package gen_test

import (
	"foundry/api"
	"foundry/fold"
	"foundry/object"
	"foundry/source"
)

// machine runs objects as they stand, without linking them: what an open place names is looked up where it is come to. It does what layer 14's table says.
type machine struct {
	objects map[string]object.Object
	vars    map[[2]string]api.Value
	input   []int64
	left    int // instructions
	calls   int
	trace   []api.Value
}

// stop: why a call is over but by its return.
type stop struct {
	kind, trap int
	value      int64
}

const (
	goesOn = iota
	traps
	runsOut
)

func machineOf(objects []object.Object, input []int64, left int) *machine {
	x := &machine{objects: map[string]object.Object{}, vars: map[[2]string]api.Value{}, input: input, left: left}
	for _, o := range objects {
		x.objects[o.Module] = o
		for _, v := range o.Vars {
			x.vars[[2]string{o.Module, v.Name}] = v.Value
		}
	}
	return x
}

// run: what it shows, and how it stands.
func (x *machine) run() ([]api.Value, api.Outcome) {
	v, s := x.call("main", "main", nil)
	switch s.kind {
	case traps:
		return x.trace, api.Outcome{Kind: api.Trapped, Trap: s.trap, Value: s.value}
	case runsOut:
		return x.trace, api.Outcome{}
	}
	return x.trace, api.Outcome{Kind: api.Halted, Value: int64(v.Bits)}
}

// activation: a call that is at work. Of a try it has where it goes on, and how much of the stack it leaves.
type activation struct {
	*machine
	o      object.Object
	number int
	at     int
	stack  []api.Value
	locals []api.Value
	tries  [][2]int
	over   bool
}

func (x *machine) call(mod, name string, args []api.Value) (api.Value, stop) {
	if x.calls == api.MaxCalls {
		return api.Value{}, stop{kind: traps, trap: api.TrapDeep}
	}
	a := &activation{machine: x, o: x.objects[mod]}
	for at, f := range a.o.Fns {
		if f.Name == name {
			a.number = at
		}
	}
	a.locals = append(args, make([]api.Value, len(a.o.Fns[a.number].Fn.Locals)-len(args))...)
	x.calls++
	defer func() { x.calls-- }()
	for !a.over {
		if x.left == 0 {
			return api.Value{}, stop{kind: runsOut}
		}
		x.left--
		if s := a.step(); s.kind == runsOut || s.kind == traps && !a.caught(s) {
			return api.Value{}, s
		}
	}
	if a.o.Fns[a.number].Fn.Sig.Result == api.TNone {
		return api.Value{}, stop{}
	}
	return a.pop(), stop{}
}

// caught: goes on at the try that was opened last, if there is one.
func (a *activation) caught(s stop) bool {
	if len(a.tries) == 0 || s.trap == api.TrapTrace {
		return false
	}
	last := a.tries[len(a.tries)-1]
	a.tries = a.tries[:len(a.tries)-1]
	a.at, a.stack = last[0], a.stack[:last[1]]
	a.push(num(source.Bound(s.trap, s.value)))
	return true
}

func (a *activation) push(v api.Value) {
	a.stack = append(a.stack, v)
}

func (a *activation) pop() api.Value {
	v := a.stack[len(a.stack)-1]
	a.stack = a.stack[:len(a.stack)-1]
	return v
}

// reloc: the name that belongs to the instruction.
func (a *activation) reloc(at int) [2]string {
	for _, r := range a.o.Relocs {
		if r.Fn == a.number && r.At == at {
			return [2]string{r.Mod, r.Name}
		}
	}
	panic("no Reloc")
}

func (a *activation) step() stop {
	here := a.at
	i := a.o.Fns[a.number].Fn.Code[here]
	a.at++
	switch i.Op {
	case 1:
		a.push(i.V)
	case 2:
		a.push(a.locals[i.N])
	case 3:
		a.locals[i.N] = a.pop()
	case 4:
		a.push(a.vars[a.reloc(here)])
	case 5:
		a.vars[a.reloc(here)] = a.pop()
	case 6, 7:
		return a.reckon(i.Op, i.N)
	case 8:
		a.at = i.N
	case 9:
		if a.pop().Bits == 0 {
			a.at = i.N
		}
	case 10:
		return a.enter(a.reloc(here))
	case 11:
		a.over = true
	case 15:
		a.tries = append(a.tries, [2]int{i.N, len(a.stack)})
	case 16:
		a.tries = a.tries[:len(a.tries)-1]
	case 17:
		a.pop()
	default:
		return a.outside(i.Op)
	}
	return stop{}
}

// outside: show, fail, input.
func (a *activation) outside(op int) stop {
	switch op {
	case 12:
		v := a.pop()
		if len(a.trace) == api.MaxTrace {
			return stop{kind: traps, trap: api.TrapTrace}
		}
		a.trace = append(a.trace, v)
	case 13:
		return stop{kind: traps, trap: api.TrapFail, value: int64(a.pop().Bits)}
	case 14:
		if len(a.input) == 0 {
			return stop{kind: traps, trap: api.TrapInput}
		}
		a.push(num(a.input[0]))
		a.input = a.input[1:]
	}
	return stop{}
}

func (a *activation) reckon(op, operator int) stop {
	last := a.pop()
	v, trap := api.Value{}, 0
	if op == 6 {
		v, trap = fold.Un(operator, last)
	} else {
		v, trap = fold.Bin(operator, a.pop(), last)
	}
	if trap != 0 {
		return stop{kind: traps, trap: trap}
	}
	a.push(v)
	return stop{}
}

func (a *activation) enter(name [2]string) stop {
	params := 0
	result := api.TNone
	for _, f := range a.objects[name[0]].Fns {
		if f.Name == name[1] {
			params, result = len(f.Fn.Sig.Params), f.Fn.Sig.Result
		}
	}
	args := append([]api.Value{}, a.stack[len(a.stack)-params:]...)
	a.stack = a.stack[:len(a.stack)-params]
	v, s := a.call(name[0], name[1], args)
	if s.kind == goesOn && result != api.TNone {
		a.push(v)
	}
	return s
}
