package vm_test

import (
	"fmt"
	"slices"
	"sync"
	"testing"

	"foundry/api"
	"foundry/code"
	"foundry/image"
	"foundry/vm"
)

// task: an image, and an input for it.
type task struct {
	i     image.Image
	input []int64
}

func tasks() []task {
	i, input := busy()
	l := []task{
		{i, input}, {just("push 5; show; push 7; return"), nil}, {just("push 1; push 0; bin /; return"), []int64{1}}, {deep(70), nil}, {showing(1100, true), nil}, {endless(), numbers(1024)},
		{just("input; input; bin +; return"), []int64{3}}, {just("return"), []int64{3}}, {image.Image{}, numbers(1025)}, {just("push 1; return"), numbers(1025)},
	}
	x := mixer(1900)
	for seed := range uint64(40) {
		l = append(l, task{coded(seed), x.inputs()})
	}
	return l
}

func scribble[T any](l []T, x T) {
	l = l[:cap(l)]
	for at := range l {
		l[at] = x
	}
}

// spoil writes over all that the image's lists have, spare room too.
func spoil(i image.Image) {
	for _, f := range i.Fns[:cap(i.Fns)] {
		scribble(f.Sig.Params, 99)
		scribble(f.Locals, 99)
		scribble(f.Code, code.Ins{Op: 99})
	}
	scribble(i.Vars, num(99))
	scribble(i.Fns, code.Fn{Locals: []int{99}})
}

func spoilFrames(l []vm.Frame) {
	for _, f := range l[:cap(l)] {
		scribble(f.Locals, truth(99))
		scribble(f.Stack, truth(99))
	}
	scribble(l, vm.Frame{Fn: 99, At: 99, Tries: 99, Stack: []api.Value{truth(99)}})
}

// story: all that a machine tells, in pieces of some steps, to its end or some 3000 steps.
func story(w task) string {
	m, e := vm.New(w.i, w.input)
	text := fmt.Sprint(int(e), "\n")
	if e != api.OK {
		return text
	}
	for range 60 {
		text += runTold(m.Run(50)) + "\n" + told(m) + "\n"
	}
	clone := m.Clone()
	return text + runTold(clone.Run(500)) + told(clone) + told(m)
}

// What is handed in stays as it was.
func TestWhatIsHandedInStays(t *testing.T) {
	for _, w := range tasks() {
		w.i, w.input = roomy(w.i), spared(w.input, 77)
		ahead, inputAhead := whole(w.i), fmt.Sprint(w.input[:cap(w.input)])
		story(w)
		isText(t, "the image", whole(w.i), ahead)
		isText(t, "the input", fmt.Sprint(w.input[:cap(w.input)]), inputAhead)
	}
}

// What is handed in is not kept.
func TestWhatIsHandedInIsNotKept(t *testing.T) {
	for _, w := range tasks() {
		other, e := vm.New(w.i, w.input)
		if e != api.OK {
			continue
		}
		i, input := roomy(w.i), spared(w.input, 77)
		m, e := vm.New(i, input)
		is(t, "New", e, api.OK)
		spoil(i)
		scribble(input, 99)
		for range 100 {
			isText(t, "Run", runTold(m.Run(20)), runTold(other.Run(20)))
			isText(t, "all it tells", told(m), told(other))
		}
	}
}

// What is handed out is nobody else's.
func TestWhatIsHandedOutIsNobodyElses(t *testing.T) {
	for _, w := range tasks() {
		m, e := vm.New(w.i, w.input)
		if e != api.OK {
			continue
		}
		other := begun(t, w.i, w.input...)
		for range 150 {
			shown, o, e := m.Run(13)
			want, o2, e2 := other.Run(13)
			isText(t, "Run", runTold(shown, o, e), runTold(want, o2, e2))
			trace, frames, vars := m.Trace(), m.Frames(), m.Vars()
			first := stateTold(o, m.Steps(), m.Taken(), trace, vars, frames)
			moreTrace, moreFrames, moreVars := m.Trace(), m.Frames(), m.Vars()
			scribble(shown, truth(99))
			scribble(trace, truth(99))
			scribble(vars, truth(99))
			spoilFrames(frames)
			isText(t, "the other answers", stateTold(o, m.Steps(), m.Taken(), moreTrace, moreVars, moreFrames), first)
			isText(t, "the machine", told(m), first)
			isText(t, "another machine", told(other), first)
		}
	}
}

// No two lists of one answer stand in the same memory, nor in one another's spare room.
func TestListsOfOneAnswerAreApart(t *testing.T) {
	for _, w := range tasks() {
		m, e := vm.New(w.i, w.input)
		if e != api.OK {
			continue
		}
		for range 100 {
			m.Run(7)
			var lists [][]api.Value
			for _, f := range m.Frames() {
				lists = append(lists, f.Locals, f.Stack)
			}
			areApart(t, append(lists, m.Vars(), m.Trace()))
		}
	}
}

// areApart fails if what is written into one of the lists, spare room too, is seen in another one.
func areApart(t *testing.T, lists [][]api.Value) {
	t.Helper()
	number := int64(0)
	for _, l := range lists {
		for at := range l[:cap(l)] {
			number++
			l[:cap(l)][at] = num(number)
		}
	}
	number = 0
	for _, l := range lists {
		for _, got := range l[:cap(l)] {
			number++
			is(t, "a value", got, num(number))
		}
	}
}

// What is appended to a list that was handed out is the caller's too.
func TestAppendingChangesNothing(t *testing.T) {
	i, input := busy()
	for steps := range 20 {
		m := after(t, steps, i, input...)
		ahead := told(m)
		for _, l := range [][]api.Value{m.Trace(), m.Vars()} {
			_ = append(l, truth(99), truth(99))
		}
		for _, f := range m.Frames() {
			_ = append(append(f.Locals, truth(99)), append(f.Stack, truth(99))...)
		}
		isText(t, "all it tells", told(m), ahead)
		m.Run(100)
		isText(t, "its end", told(m), "halted 42, 19 steps, 2 taken, frames , vars (40 true), trace (40)")
	}
}

// A list without an element may be nil or empty, whoever hands it in.
func TestEmptyLists(t *testing.T) {
	i := img(code.Fn{Sig: code.Sig{Params: []int{}, Result: 1}, Locals: []int{}, Code: asm("call 1; push 5; return")}, code.Fn{Sig: code.Sig{Params: []int{}}, Locals: []int{}, Code: asm("return")})
	i.Vars = []api.Value{}
	other := img(fn(":i", "", "call 1; push 5; return"), fn("", "", "return"))
	isText(t, "empty ones", story(task{i, []int64{}}), story(task{other, nil}))
}

// What a machine does hangs on its image and its input alone: the same ones once more, or at the same time, do the same.
func TestRunsAreTheSameOnceMore(t *testing.T) {
	l := tasks()
	want := make([]string, len(l))
	for at, w := range l {
		want[at] = story(w)
	}
	got := make([]string, len(l))
	var workers sync.WaitGroup
	for at, w := range l {
		workers.Go(func() { got[at] = story(w) })
	}
	workers.Wait()
	for at, w := range l {
		isText(t, fmt.Sprint("at the same time ", at), got[at], want[at])
		isText(t, fmt.Sprint("once more ", at), story(w), want[at])
	}
}

// Clones of one machine run side by side, with the machine itself.
func TestClonesSideBySide(t *testing.T) {
	for _, w := range tasks() {
		m, e := vm.New(w.i, w.input)
		if e != api.OK {
			continue
		}
		m.Run(100)
		all := []*vm.Machine{m, m.Clone(), m.Clone(), m.Clone()}
		texts := make([]string, len(all))
		var workers sync.WaitGroup
		for at, one := range all {
			workers.Go(func() { texts[at] = runTold(one.Run(1000)) + told(one) })
		}
		workers.Wait()
		is(t, "how many unlike texts", len(slices.Compact(texts)), 1)
	}
}
