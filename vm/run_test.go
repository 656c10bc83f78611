package vm_test

import (
	"fmt"
	"math"
	"slices"
	"testing"

	"foundry/api"
	"foundry/code"
	"foundry/image"
	"foundry/vm"
)

// endless: shows the numbers from 1 on, till it is too much.
func endless() image.Image {
	return img(fn(":i", "i", "get 0; push 1; bin +; put 0; get 0; show; jump 0"))
}

// strangeFuels: those that Run does not take.
func strangeFuels() []int {
	return []int{-1, -2, -65536, math.MinInt, api.MaxFuel + 1, api.MaxFuel + 2, 1 << 20, 1 << 32, math.MaxInt}
}

// P1902: Run.

func TestRunOfNil(t *testing.T) {
	var m *vm.Machine
	for _, fuel := range append(strangeFuels(), 0, 1, api.MaxFuel) {
		l, o, e := m.Run(fuel)
		is(t, fmt.Sprint("fuel ", fuel), fmt.Sprint(len(l), o, int(e)), fmt.Sprint(0, api.Outcome{}, int(api.ErrNil)))
	}
}

// A machine that New didn't make has nothing to run.
func TestRunOfTheZeroMachine(t *testing.T) {
	m := new(vm.Machine)
	for _, one := range []*vm.Machine{m, m.Clone()} {
		isText(t, "Run", runTold(one.Run(api.MaxFuel)), "() running 0")
		isText(t, "Run(-1)", runTold(one.Run(-1)), "() running "+fmt.Sprint(int(api.ErrArg)))
		isText(t, "all it tells", told(one), "running, 0 steps, 0 taken, frames , vars (), trace ()")
	}
}

func TestRunOfWrongFuel(t *testing.T) {
	show := just("push 5; show; push 7; return")
	fails := just("push 5; show; push 7; fail")
	for _, fuel := range strangeFuels() {
		for _, m := range []*vm.Machine{begun(t, show), after(t, 2, show), after(t, 9, show), after(t, 9, fails), after(t, 300, endless())} {
			ahead := told(m)
			l, o, e := m.Run(fuel)
			is(t, fmt.Sprint("fuel ", fuel, ": shown"), len(l), 0)
			is(t, fmt.Sprint("fuel ", fuel, ": Outcome"), o, m.Outcome())
			is(t, fmt.Sprint("fuel ", fuel, ": Errno"), e, api.ErrArg)
			isText(t, "all it tells", told(m), ahead)
		}
	}
	_, o, _ := after(t, 9, show).Run(-1)
	is(t, "of one that halted", o, api.Outcome{Kind: api.Halted, Value: 7})
	_, o, _ = after(t, 9, fails).Run(-1)
	is(t, "of one that trapped", o, api.Outcome{Kind: api.Trapped, Trap: api.TrapFail, Value: 7})
	_, o, _ = begun(t, show).Run(-1)
	is(t, "of one that runs", o, api.Outcome{})
}

// An error leaves no trace in what comes behind it.
func TestRunBehindAnError(t *testing.T) {
	m := begun(t, just("push 5; show; push 7; return"))
	for range 5 {
		m.Run(-1)
		m.Run(api.MaxFuel + 1)
		m.Run(1)
	}
	isText(t, "all it tells", told(m), "halted 7, 4 steps, 0 taken, frames , vars (), trace (5)")
}

func TestFuel(t *testing.T) {
	for _, fuel := range []int{0, 1, 2, 6, 7, 100, 1000} {
		m := begun(t, endless())
		l, o, e := m.Run(fuel)
		is(t, fmt.Sprint("fuel ", fuel), fmt.Sprint(len(l), o, int(e), m.Steps()), fmt.Sprint((fuel+1)/7, api.Outcome{}, 0, fuel))
		for at, v := range l {
			is(t, "a value", v, num(int64(at+1)))
		}
	}
	m := begun(t, just("jump 0"))
	isText(t, "MaxFuel", runTold(m.Run(api.MaxFuel)), "() running 0")
	is(t, "Steps", m.Steps(), 65536)
	isText(t, "MaxFuel once more", runTold(m.Run(api.MaxFuel)), "() running 0")
	isText(t, "one step more", runTold(m.Run(1)), "() running 0")
	is(t, "Steps", m.Steps(), 131073)
}

// What Run tells is what its own steps showed.
func TestRunTellsItsOwn(t *testing.T) {
	m := begun(t, endless())
	isText(t, "first", runTold(m.Run(13)), "(1 2) running 0")
	isText(t, "then", runTold(m.Run(6)), "() running 0")
	isText(t, "then", runTold(m.Run(1)), "(3) running 0")
	isText(t, "then", runTold(m.Run(0)), "() running 0")
	isText(t, "then", runTold(m.Run(14)), "(4 5) running 0")
	isText(t, "Trace", valuesTold(m.Trace()), "1 2 3 4 5")
	last, _, _ := m.Run(65536)
	is(t, "the last ones", len(last), 1019)
}

// P1905: pieces.

func TestPieces(t *testing.T) {
	x := mixer(1905)
	for seed := range uint64(250) {
		i, input := coded(40000+seed), x.inputs()
		a, b := x.below(1500), x.below(1500)
		one := begun(t, i, input...)
		first, _, _ := one.Run(a)
		second, o, e := one.Run(b)
		other := begun(t, i, input...)
		both, o2, e2 := other.Run(a + b)
		isText(t, "Run(a) and Run(b)", runTold(append(first, second...), o, e), runTold(both, o2, e2))
		isText(t, "all they tell", told(one), told(other))
	}
}

func TestPiecesOfOneStep(t *testing.T) {
	x := mixer(19050)
	for seed := range uint64(120) {
		i, input := coded(50000+seed), x.inputs()
		at, one := begun(t, i, input...), begun(t, i, input...)
		steps := 1 + x.below(800)
		var shown []api.Value
		for n := range steps {
			l, o, e := one.Run(1)
			shown = append(shown, l...)
			is(t, "Errno", e, api.OK)
			is(t, "Outcome", o, one.Outcome())
			if n > 0 && n == one.Steps() && o.Kind == api.Running {
				t.Errorf("a step of %d is not made", n)
			}
		}
		l, o, e := at.Run(steps)
		isText(t, "what is shown", valuesTold(shown), valuesTold(l))
		isText(t, "at once", runTold(l, o, e), runTold(shown, one.Outcome(), api.OK))
		isText(t, "all they tell", told(at), told(one))
	}
}

// P1907: the end.

func TestNoStepBehindTheEnd(t *testing.T) {
	ended := []*vm.Machine{
		begun(t, just("push 5; show; push 7; return"), 1, 2), begun(t, just("push 5; show; push 7; fail"), 1, 2), begun(t, just("input; input; input; return"), 1, 2),
		begun(t, just("push 5; push 0; bin /; return")), begun(t, deep(70)), begun(t, showing(2000, true)), begun(t, img(fn(":i", "", "push 1; call 1; return"), fn("i:i", "", "get 0; return"))),
	}
	for _, m := range ended {
		m.Run(65536)
		ahead := told(m)
		for _, fuel := range []int{1, 0, 2, 100, api.MaxFuel} {
			l, o, e := m.Run(fuel)
			is(t, "Run", fmt.Sprint(len(l), o, int(e)), fmt.Sprint(0, m.Outcome(), 0))
			isText(t, "all it tells", told(m), ahead)
		}
		other := m.Clone()
		other.Run(100)
		isText(t, "a clone", told(other), ahead)
	}
}

// Numbers that were not taken change nothing.
func TestMoreInput(t *testing.T) {
	x := mixer(1907)
	same, taken := 0, 0
	for seed := range uint64(600) {
		i, input := coded(60000+seed), x.inputs()
		steps := x.below(2000)
		m := after(t, steps, i, input...)
		if m.Taken() == len(input) {
			continue
		}
		same++
		taken += m.Taken()
		just := input[:m.Taken()]
		for _, others := range [][]int64{nil, x.inputs(), numbers(500)} {
			isText(t, "with others", told(after(t, steps, i, slices.Concat(just, others)...)), told(m))
		}
	}
	if same < 100 || taken < 100 {
		t.Errorf("%d runs, %d numbers", same, taken)
	}
	i := just("input; show; input; return")
	for _, input := range [][]int64{{3, 4}, {3, 4, 5}, append([]int64{3, 4}, numbers(1022)...)} {
		isText(t, "of two", told(after(t, 100, i, input...)), "halted 4, 4 steps, 2 taken, frames , vars (), trace (3)")
	}
}

// The model's run, in pieces.

func TestRunIsTheModels(t *testing.T) {
	x := mixer(1903)
	ends := map[string]int{}
	ops := map[int]int{}
	caught := 0
	for seed := range uint64(1500) {
		i, input := coded(seed), x.inputs()
		m, s := begun(t, i, input...), modelOf(i, input)
		for m.Steps() < 4000 {
			fuel := pick(&x, 1, 2, 3, x.below(50), 1+x.below(3000))
			countOps(ops, i, m)
			open := countTries(m)
			l, o, e := m.Run(fuel)
			if want := s.run(fuel); runTold(l, o, e) != runTold(want, s.outcome, api.OK) || told(m) != s.told() {
				t.Fatalf("seed %d, %d steps: %s, not %s of %s", seed, s.steps, short(told(m)), short(s.told()), short(image.Text(i)))
			}
			if fuel == 1 && countTries(m) < open && o.Kind == api.Running {
				caught++
			}
			if o.Kind != api.Running {
				break
			}
		}
		o := m.Outcome()
		ends[fmt.Sprint(o.Kind, o.Trap)]++
	}
	for _, end := range []string{"0 0", "1 0", "2 1", "2 2", "2 3", "2 4", "2 5", "2 6", "2 7"} {
		if ends[end] < 8 {
			t.Errorf("only %d runs end so: %s", ends[end], end)
		}
	}
	for op, word := range opWords()[1:] {
		if ops[op+1] < 20 {
			t.Errorf("only %d times: %s", ops[op+1], word)
		}
	}
	if caught < 20 {
		t.Errorf("only %d tries are closed", caught)
	}
}

func countOps(ops map[int]int, i image.Image, m *vm.Machine) {
	if frames := m.Frames(); len(frames) > 0 {
		f := frames[len(frames)-1]
		ops[i.Fns[f.Fn].Code[f.At].Op]++
	}
}

func countTries(m *vm.Machine) int {
	n := 0
	for _, f := range m.Frames() {
		n += f.Tries
	}
	return n
}

// shapes: code.Shape of each place, found when it is asked for.
type shapes struct {
	i     image.Image
	p     code.Frame
	known map[[2]int]string
}

func shapesOf(i image.Image) shapes {
	return shapes{i, image.Frame(i), map[[2]int]string{}}
}

func (s shapes) at(fn, at int) string {
	key := [2]int{fn, at}
	if s.known[key] == "" {
		stack, tries, come := code.Shape(s.i.Fns[fn], s.p, at)
		s.known[key] = fmt.Sprint(stack, tries, come)
	}
	return s.known[key]
}

// typesOfValues: as code.Shape tells them.
func typesOfValues(l []api.Value) []int {
	var types []int
	for _, v := range l {
		types = append(types, v.Type)
	}
	return types
}

// fits fails unless each frame has the types of its locals, and those of the shape ahead of its instruction; one that waits has that of the call's result on it, if it has one, when that comes back.
func (s shapes) fits(t *testing.T, m *vm.Machine) {
	t.Helper()
	frames := m.Frames()
	for n, f := range frames {
		stack := typesOfValues(f.Stack)
		if n+1 < len(frames) {
			call := s.i.Fns[f.Fn].Code[f.At-1]
			is(t, "what it waits for", fmt.Sprint(call.Op, call.N), fmt.Sprint(10, frames[n+1].Fn))
			if result := s.i.Fns[call.N].Sig.Result; result != api.TNone {
				stack = append(stack, result)
			}
		}
		if got, want := fmt.Sprint(stack, f.Tries, true), s.at(f.Fn, f.At); got != want {
			t.Fatalf("frame %d at %d of %d: %s, not %s; %s", n, f.At, f.Fn, got, want, framesTold(frames))
		}
		is(t, "locals", fmt.Sprint(typesOfValues(f.Locals)), fmt.Sprint(s.i.Fns[f.Fn].Locals))
		rightValues(t, f.Stack)
		rightValues(t, f.Locals)
	}
	is(t, "variables", fmt.Sprint(typesOfValues(m.Vars())), fmt.Sprint(s.p.Vars))
	rightValues(t, m.Vars())
}

// P1906: ahead of each step.
func TestStacksHaveTheirShapes(t *testing.T) {
	x := mixer(1906)
	for seed := range uint64(300) {
		i := coded(70000 + seed)
		s := shapesOf(i)
		m := begun(t, i, x.inputs()...)
		for range 400 {
			s.fits(t, m)
			if _, o, _ := m.Run(1); o.Kind == api.Running {
				continue
			}
			// What is Trapped stands ahead of its last step.
			s.fits(t, m)
			break
		}
		rightValues(t, m.Trace())
	}
}
