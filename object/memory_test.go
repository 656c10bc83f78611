package object_test

import (
	"fmt"
	"strings"
	"sync"
	"testing"

	"foundry/api"
	"foundry/code"
	"foundry/object"
)

// someObjects: right ones and others.
func someObjects() []object.Object {
	l := rightObjects()
	for _, wrong := range wrongObjects() {
		l = append(l, wrong.o)
	}
	return append(l, object.Object{}, faultless(), sized(16384), sized(16385))
}

// asked: all that the calls answer of two objects, as one text.
func asked(o, other object.Object) string {
	return fmt.Sprint(object.Right(o), packed(o), object.Same(o, other), object.Same(other, o), object.Defines(o), object.Needs(o), object.Text(o), unpacked(modelBytes(o)))
}

func scribble[T any](l []T, x T) {
	l = l[:cap(l)]
	for at := range l {
		l[at] = x
	}
}

// spoil writes over all that the object's lists have, spare room too.
func spoil(o object.Object) {
	for _, f := range o.Fns[:cap(o.Fns)] {
		scribble(f.Fn.Sig.Params, 99)
		scribble(f.Fn.Locals, 99)
		scribble(f.Fn.Code, code.Ins{Op: 99})
	}
	scribble(o.Vars, object.Var{Name: "spoilt"})
	scribble(o.Fns, object.Fn{Name: "spoilt"})
	scribble(o.Relocs, object.Reloc{Name: "spoilt"})
}

// What is handed in stays as it was.

func TestWhatIsHandedInStays(t *testing.T) {
	l := someObjects()
	for at := range l {
		o, other := roomy(l[at]), roomy(l[(at+1)%len(l)])
		ahead, otherAhead := whole(o), whole(other)
		asked(o, other)
		is(t, "the object", whole(o), ahead)
		is(t, "the other object", whole(other), otherAhead)
		b := spared(modelBytes(o), 77)
		bytesAhead := fmt.Sprint(b[:cap(b)])
		object.Unpack(b)
		object.Unpack(b[:len(b)/2])
		is(t, "the bytes", fmt.Sprint(b[:cap(b)]), bytesAhead)
	}
}

// What is handed out is nobody else's.

func TestPackSharesNothing(t *testing.T) {
	for _, o := range someObjects() {
		o = roomy(o)
		want, ahead := packed(o), whole(o)
		first, e := object.Pack(o)
		second, _ := object.Pack(o)
		scribble(first, 99)
		is(t, "the other answer", bytesTold(second, e), want)
		is(t, "the object", whole(o), ahead)
		is(t, "once more", packed(o), want)
		spoil(o)
		is(t, "the other answer, with the object written over", bytesTold(second, e), want)
	}
}

func TestUnpackSharesNothing(t *testing.T) {
	for _, o := range someObjects() {
		b := spared(modelBytes(o), 77)
		ahead, want := fmt.Sprint(b[:cap(b)]), unpacked(b)
		first, e := object.Unpack(b)
		second, _ := object.Unpack(b)
		spoil(first)
		is(t, "the bytes", fmt.Sprint(b[:cap(b)]), ahead)
		is(t, "the other answer", objectTold(second, e), want)
		scribble(b, 99)
		is(t, "the other answer, with the bytes written over", objectTold(second, e), want)
	}
}

// No two lists of one answer stand in the same memory, nor in one another's spare room.
func TestListsOfOneAnswerAreApart(t *testing.T) {
	o := obj("m", typed("f", []int{1}, 0, []int{1, 2, 3}), typed("g", []int{1, 2, 3}, 0, []int{1}), typed("h", []int{1, 2, 3, 1, 2}, 0, nil), function("i", "return; show; show; show; show"), function("j", "return"))
	back, e := object.Unpack(bytesOf(t, o))
	is(t, "Unpack", e, api.OK)
	number := 0
	for _, f := range back.Fns {
		for _, l := range [][]int{f.Fn.Sig.Params, f.Fn.Locals} {
			for at := range l[:cap(l)] {
				number++
				l[:cap(l)][at] = number
			}
		}
		l := f.Fn.Code[:cap(f.Fn.Code)]
		for at := range l {
			number++
			l[at].N = number
		}
	}
	number = 0
	for _, f := range back.Fns {
		for _, l := range [][]int{f.Fn.Sig.Params, f.Fn.Locals} {
			for _, got := range l[:cap(l)] {
				number++
				is(t, "a type", got, number)
			}
		}
		for _, got := range f.Fn.Code[:cap(f.Fn.Code)] {
			number++
			is(t, "an instruction", got.N, number)
		}
	}
}

func TestListsOfNamesShareNothing(t *testing.T) {
	o := roomy(obj("m", variable("b", num(1)), function("a", "call @k.f; call @a.g; call @k.f"), function("c", "")))
	ahead := whole(o)
	for _, list := range []func(object.Object) []string{object.Defines, object.Needs} {
		want := strings.Join(list(o), " ")
		first, second := list(o), list(o)
		scribble(first, "spoilt")
		is(t, "the other answer", strings.Join(second, " "), want)
		is(t, "once more", strings.Join(list(o), " "), want)
		is(t, "the object", whole(o), ahead)
	}
	defines, needs := object.Defines(o), object.Needs(o)
	spoil(o)
	is(t, "Defines", strings.Join(defines, " "), "a b c")
	is(t, "Needs", strings.Join(needs, " "), "a.g k.f")
}

// What a call answers hangs on its arguments alone: the same ones once more, or at the same time, are answered alike.
func TestAnswersAreTheSameOnceMore(t *testing.T) {
	l := someObjects()
	tell := func(at int) string {
		return asked(l[at], l[(at+1)%len(l)])
	}
	want := make([]string, len(l))
	for at := range l {
		want[at] = tell(at)
	}
	got := make([]string, len(l))
	var workers sync.WaitGroup
	for at := range l {
		workers.Go(func() { got[at] = tell(at) })
	}
	workers.Wait()
	for at := range l {
		is(t, fmt.Sprint("at the same time ", at), got[at], want[at])
		is(t, fmt.Sprint("once more ", at), tell(at), want[at])
	}
}
