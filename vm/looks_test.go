package vm_test

import (
	"fmt"
	"strings"
	"testing"

	"foundry/api"
	"foundry/image"
	"foundry/vm"
)

// P1904: of a nil machine.
func TestLooksOfNil(t *testing.T) {
	var m *vm.Machine
	is(t, "Trace", len(m.Trace()), 0)
	is(t, "Outcome", m.Outcome(), api.Outcome{})
	is(t, "Steps", m.Steps(), 0)
	is(t, "Frames", len(m.Frames()), 0)
	is(t, "Vars", len(m.Vars()), 0)
	is(t, "Taken", m.Taken(), 0)
	is(t, "Clone", m.Clone() == nil, true)
}

// busy: an image that has all there is to look at. It runs for 19 steps with the inputs 40 and 2, and halts with 42.
func busy() (image.Image, []int64) {
	main := fn(":i", "b", "push true; put 0; push 3; input; store 0; try 12; push 1.5; load 0; call 1; return; return; return; drop; return")
	called := fn("i:i", "f", "get 0; show; push 7.5; put 1; get 0; try 9; input; bin +; return; drop; return")
	return withVars(img(main, called), num(1), truth(1)), []int64{40, 2, 9}
}

func TestLooksAtEachTime(t *testing.T) {
	i, input := busy()
	m := begun(t, i, input...)
	for at, want := range []string{
		"running, 0 steps, 0 taken, frames 0@0(false)[]0, vars (1 true), trace ()",
		"running, 1 steps, 0 taken, frames 0@1(false)[true]0, vars (1 true), trace ()",
		"running, 2 steps, 0 taken, frames 0@2(true)[]0, vars (1 true), trace ()",
		"running, 3 steps, 0 taken, frames 0@3(true)[3]0, vars (1 true), trace ()",
		"running, 4 steps, 1 taken, frames 0@4(true)[3 40]0, vars (1 true), trace ()",
		"running, 5 steps, 1 taken, frames 0@5(true)[3]0, vars (40 true), trace ()",
		"running, 6 steps, 1 taken, frames 0@6(true)[3]1, vars (40 true), trace ()",
		"running, 7 steps, 1 taken, frames 0@7(true)[3 0x1.8p+0]1, vars (40 true), trace ()",
		"running, 8 steps, 1 taken, frames 0@8(true)[3 0x1.8p+0 40]1, vars (40 true), trace ()",
		"running, 9 steps, 1 taken, frames 0@9(true)[3 0x1.8p+0]1 1@0(40 0x0p+0)[]0, vars (40 true), trace ()",
		"running, 10 steps, 1 taken, frames 0@9(true)[3 0x1.8p+0]1 1@1(40 0x0p+0)[40]0, vars (40 true), trace ()",
		"running, 11 steps, 1 taken, frames 0@9(true)[3 0x1.8p+0]1 1@2(40 0x0p+0)[]0, vars (40 true), trace (40)",
		"running, 12 steps, 1 taken, frames 0@9(true)[3 0x1.8p+0]1 1@3(40 0x0p+0)[0x1.ep+2]0, vars (40 true), trace (40)",
		"running, 13 steps, 1 taken, frames 0@9(true)[3 0x1.8p+0]1 1@4(40 0x1.ep+2)[]0, vars (40 true), trace (40)",
		"running, 14 steps, 1 taken, frames 0@9(true)[3 0x1.8p+0]1 1@5(40 0x1.ep+2)[40]0, vars (40 true), trace (40)",
		"running, 15 steps, 1 taken, frames 0@9(true)[3 0x1.8p+0]1 1@6(40 0x1.ep+2)[40]1, vars (40 true), trace (40)",
		"running, 16 steps, 2 taken, frames 0@9(true)[3 0x1.8p+0]1 1@7(40 0x1.ep+2)[40 2]1, vars (40 true), trace (40)",
		"running, 17 steps, 2 taken, frames 0@9(true)[3 0x1.8p+0]1 1@8(40 0x1.ep+2)[42]1, vars (40 true), trace (40)",
		"running, 18 steps, 2 taken, frames 0@9(true)[3 0x1.8p+0 42]1, vars (40 true), trace (40)",
		"halted 42, 19 steps, 2 taken, frames , vars (40 true), trace (40)",
		"halted 42, 19 steps, 2 taken, frames , vars (40 true), trace (40)",
	} {
		isText(t, fmt.Sprint("behind ", at, " steps"), told(m), want)
		isText(t, "looked at once more", told(m), want)
		isText(t, "a clone", told(m.Clone()), want)
		isText(t, "another machine", told(after(t, at, i, input...)), want)
		m.Run(1)
	}
}

// A look changes nothing of the run.
func TestLooksChangeNothing(t *testing.T) {
	x := mixer(1904)
	for seed := range uint64(60) {
		i, input := coded(80000+seed), x.inputs()
		m := begun(t, i, input...)
		for range 200 {
			told(m)
			m.Clone().Run(5)
			m.Run(1)
		}
		isText(t, "all it tells", told(m), told(after(t, 200, i, input...)))
	}
}

// A clone goes on by itself, as the machine would.
func TestCloneGoesOnByItself(t *testing.T) {
	x := mixer(19040)
	for seed := range uint64(200) {
		i, input := coded(90000+seed), x.inputs()
		steps, more := x.below(300), 1+x.below(300)
		m := after(t, steps, i, input...)
		ahead := told(m)
		clone := m.Clone()
		second := clone.Clone()
		isText(t, "the clone", told(clone), ahead)
		shown, o, e := clone.Run(more)
		isText(t, "the machine, when its clone has run", told(m), ahead)
		isText(t, "the clone's clone", told(second), ahead)
		behind := told(clone)
		isText(t, "the machine runs as its clone did", runTold(m.Run(more)), runTold(shown, o, e))
		isText(t, "all it tells", told(m), behind)
		m.Run(1000)
		isText(t, "the clone, when the machine has run", told(clone), behind)
		second.Run(more)
		isText(t, "the clone's clone runs so too", told(second), behind)
		clone.Run(1000)
		isText(t, "the clone, as far", told(clone), told(m))
	}
}

// All that a clone may share stands where the machine goes on to write: locals, the stack, open tries, variables, the trace.
func TestCloneSharesNothing(t *testing.T) {
	i, input := busy()
	for steps := range 20 {
		for first := range 20 {
			m := after(t, steps, i, input...)
			clone := m.Clone()
			m.Run(first)
			for range 20 {
				clone.Run(1)
				m.Run(1)
			}
			isText(t, fmt.Sprint(steps, " and ", first), told(clone), "halted 42, 19 steps, 2 taken, frames , vars (40 true), trace (40)")
			isText(t, fmt.Sprint(steps, " and ", first), told(m), told(clone))
		}
	}
}

// What an open try has of the stack is each machine's own, whichever of them comes back to it first, and however much it has.
func TestCloneOfOpenTries(t *testing.T) {
	for high := range 40 {
		pushes, sums := strings.Repeat("push 5; ", high), strings.Repeat("push 10; bin *; bin -; ", high)
		i := just(fmt.Sprintf("%stry %d; try %d; input; drop; input; return; fail; %sreturn", pushes, high+7, high+6, sums))
		ahead := after(t, high+2, i, 1)
		want := runTold(after(t, high+2, i, 1).Run(1000))
		other := ahead.Clone()
		isText(t, "the clone", runTold(other.Run(1000)), want)
		isText(t, "the machine", runTold(ahead.Run(1000)), want)
		isText(t, "all they tell", told(ahead), told(other))
	}
}
