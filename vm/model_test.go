package vm_test

import (
	"slices"

	"foundry/api"
	"foundry/code"
	"foundry/fold"
	"foundry/image"
	"foundry/vm"
)

// model runs an image by the chapter's words in another way: it asks ahead of each instruction whether it traps, and has one list of all open tries.
type model struct {
	i       image.Image
	input   []int64
	taken   int
	frames  []vm.Frame
	tries   []modelTry
	trace   []api.Value
	vars    []api.Value
	steps   int
	outcome api.Outcome
}

// modelTry: an open try: which frame has it, where it goes on, with which stack.
type modelTry struct {
	frame, at int
	stack     []api.Value
}

func modelOf(i image.Image, input []int64) *model {
	s := &model{i: i, input: input, vars: slices.Clone(i.Vars)}
	s.call(i.Main, nil)
	return s
}

func (s *model) told() string {
	frames := slices.Clone(s.frames)
	for _, t := range s.tries {
		frames[t.frame].Tries++
	}
	return stateTold(s.outcome, s.steps, s.taken, s.trace, s.vars, frames)
}

func (s *model) run(steps int) []api.Value {
	shown := len(s.trace)
	for range steps {
		if s.outcome.Kind == api.Running {
			s.step()
		}
	}
	return s.trace[shown:]
}

func (s *model) last() *vm.Frame {
	return &s.frames[len(s.frames)-1]
}

func (s *model) call(fn int, args []api.Value) {
	f := vm.Frame{Fn: fn}
	for at, t := range s.i.Fns[fn].Locals {
		if at < len(args) {
			f.Locals = append(f.Locals, args[at])
		} else {
			f.Locals = append(f.Locals, api.Value{Type: t, Bits: 0})
		}
	}
	s.frames = append(s.frames, f)
}

func (s *model) step() {
	s.steps++
	f := s.last()
	i := s.i.Fns[f.Fn].Code[f.At]
	if trap := s.trap(i, f.Stack); trap != 0 {
		var number int64
		if trap == api.TrapFail {
			number = int64(f.Stack[len(f.Stack)-1].Bits)
		}
		s.trapped(trap, number)
		return
	}
	s.does(i, f)
}

// trap: that of the instruction with this stack; 0, if it has none.
func (s *model) trap(i code.Ins, stack []api.Value) int {
	trap := 0
	n := len(stack)
	switch {
	case i.Op == 6:
		_, trap = fold.Un(i.N, stack[n-1])
	case i.Op == 7:
		_, trap = fold.Bin(i.N, stack[n-2], stack[n-1])
	case i.Op == 10 && len(s.frames) >= 64:
		return api.TrapDeep
	case i.Op == 12 && len(s.trace) >= 1024:
		return api.TrapTrace
	case i.Op == 13:
		return api.TrapFail
	case i.Op == 14 && s.taken >= len(s.input):
		return api.TrapInput
	}
	return trap
}

func (s *model) trapped(trap int, number int64) {
	if trap == api.TrapTrace || len(s.tries) == 0 {
		s.outcome = api.Outcome{Kind: api.Trapped, Trap: trap, Value: number}
		return
	}
	t := s.tries[len(s.tries)-1]
	s.tries = s.tries[:len(s.tries)-1]
	s.frames = s.frames[:t.frame+1]
	bound := []int64{0, -1, -2, -3, -4, -5, number}[trap]
	s.last().At = t.at
	s.last().Stack = append(slices.Clone(t.stack), num(bound))
}

// takes: how many values the instruction takes.
func (s *model) takes(i code.Ins, f *vm.Frame) int {
	switch i.Op {
	case 3, 5, 6, 9, 12, 17:
		return 1
	case 7:
		return 2
	case 10:
		return len(s.i.Fns[i.N].Sig.Params)
	case 11:
		return min(1, s.i.Fns[f.Fn].Sig.Result)
	}
	return 0
}

// does: what an instruction does that has no trap.
func (s *model) does(i code.Ins, f *vm.Frame) {
	n := len(f.Stack) - s.takes(i, f)
	taken := slices.Clone(f.Stack[n:])
	f.Stack = slices.Clone(f.Stack[:n])
	f.At++
	put := func(v api.Value) { f.Stack = append(f.Stack, v) }
	switch i.Op {
	case 1:
		put(i.V)
	case 2:
		put(f.Locals[i.N])
	case 3:
		f.Locals[i.N] = taken[0]
	case 4:
		put(s.vars[i.N])
	case 5:
		s.vars[i.N] = taken[0]
	case 6:
		v, _ := fold.Un(i.N, taken[0])
		put(v)
	case 7:
		v, _ := fold.Bin(i.N, taken[0], taken[1])
		put(v)
	case 14:
		put(num(s.input[s.taken]))
		s.taken++
	case 12:
		s.trace = append(s.trace, taken[0])
	default:
		s.leads(i, f, taken)
	}
}

// leads: what an instruction does that leads elsewhere, or to a try.
func (s *model) leads(i code.Ins, f *vm.Frame, taken []api.Value) {
	switch i.Op {
	case 8:
		f.At = i.N
	case 9:
		if taken[0] == truth(0) {
			f.At = i.N
		}
	case 10:
		s.call(i.N, taken)
	case 11:
		s.back(taken)
	case 15:
		s.tries = append(s.tries, modelTry{len(s.frames) - 1, i.N, f.Stack})
	case 16:
		s.tries = s.tries[:len(s.tries)-1]
	}
}

// back: the last frame is gone, its open tries too.
func (s *model) back(result []api.Value) {
	s.frames = s.frames[:len(s.frames)-1]
	for len(s.tries) > 0 && s.tries[len(s.tries)-1].frame == len(s.frames) {
		s.tries = s.tries[:len(s.tries)-1]
	}
	if len(s.frames) == 0 {
		s.outcome = api.Outcome{Kind: api.Halted, Value: int64(result[0].Bits)}
		return
	}
	s.last().Stack = append(s.last().Stack, result...)
}
