package link_test

import (
	"fmt"
	"slices"
	"sync"
	"testing"

	"foundry/api"
	"foundry/code"
	"foundry/image"
	"foundry/link"
	"foundry/object"
)

// allLists: objects that have an image, and objects that have none, for each reason.
func allLists() [][]object.Object {
	l := [][]object.Object{nil, all(five()), threeModules(), full(32, 32, 32), sized(65536), sized(65537)}
	for _, f := range faults() {
		l = append(l, f.put(all(five(), obj("k", function("f", "", "", "return")))))
	}
	for seed := range uint64(12) {
		l = append(l, made(8000+seed))
	}
	// The same lists, handed in more than once.
	f := fn("ib:f", "i", "push 1.5; return; return")
	return append(l, all(five(), obj("a", coded("f", f), coded("g", f)), obj("b", coded("f", f))))
}

// asked: all that the calls answer, as one text.
func asked(l []object.Object) string {
	return fmt.Sprint(linked(l), packed(l), symbolsTold(link.Symbols(l)))
}

func scribble[T any](l []T, x T) {
	l = l[:cap(l)]
	for at := range l {
		l[at] = x
	}
}

// spoilImage, spoil: write over all that the lists have, spare room too.
func spoilImage(i image.Image) {
	for _, f := range i.Fns[:cap(i.Fns)] {
		spoilFn(f)
	}
	scribble(i.Vars, num(99))
	scribble(i.Fns, code.Fn{Locals: []int{99}})
}

func spoilFn(f code.Fn) {
	scribble(f.Sig.Params, 99)
	scribble(f.Locals, 99)
	scribble(f.Code, code.Ins{Op: 99})
}

func spoil(l []object.Object) {
	for _, o := range l[:cap(l)] {
		for _, f := range o.Fns[:cap(o.Fns)] {
			spoilFn(f.Fn)
		}
		scribble(o.Vars, object.Var{Name: "spoilt"})
		scribble(o.Fns, object.Fn{Name: "spoilt"})
		scribble(o.Relocs, object.Reloc{Name: "spoilt"})
	}
	scribble(l, object.Object{Module: "spoilt"})
}

// What is handed in stays as it was, its order too.
func TestWhatIsHandedInStays(t *testing.T) {
	for seed, l := range allLists() {
		x := mixer(seed)
		l = roomy(shuffled(&x, l))
		ahead := whole(l)
		link.Symbols(l)
		isText(t, "Symbols", whole(l), ahead)
		link.Link(l)
		isText(t, "Link", whole(l), ahead)
		link.Bytes(l)
		isText(t, "Bytes", whole(l), ahead)
	}
}

// What is handed out is nobody else's.

func TestLinkSharesNothing(t *testing.T) {
	for _, l := range allLists() {
		l = roomy(l)
		want, ahead := linked(l), whole(l)
		first, _ := link.Link(l)
		second, p := link.Link(l)
		spoilImage(first)
		isText(t, "the objects", whole(l), ahead)
		isText(t, "the other answer", imageTold(second, p), want)
		isText(t, "once more", linked(l), want)
		spoil(l)
		isText(t, "the other answer, with the objects written over", imageTold(second, p), want)
	}
}

func TestSymbolsAndBytesShareNothing(t *testing.T) {
	for _, l := range allLists() {
		l = roomy(l)
		wantSymbols, wantBytes, ahead := symbolsTold(link.Symbols(l)), packed(l), whole(l)
		symbols := link.Symbols(l)
		b, p := link.Bytes(l)
		scribble(link.Symbols(l), link.Symbol{Mod: "spoilt"})
		other, _ := link.Bytes(l)
		scribble(other, 99)
		isText(t, "the objects", whole(l), ahead)
		isText(t, "Symbols", symbolsTold(link.Symbols(l)), wantSymbols)
		isText(t, "Bytes", packed(l), wantBytes)
		spoil(l)
		isText(t, "Symbols, with the objects written over", symbolsTold(symbols), wantSymbols)
		isText(t, "Bytes, with the objects written over", bytesTold(b, p), wantBytes)
	}
}

// No two lists of one answer stand in the same memory, nor in one another's spare room.
func TestListsOfOneAnswerAreApart(t *testing.T) {
	for _, l := range allLists() {
		i, _ := link.Link(roomy(l))
		var types [][]int
		var ins [][]code.Ins
		for _, f := range i.Fns {
			types, ins = append(types, f.Sig.Params, f.Locals), append(ins, f.Code)
		}
		areApart(t, types, func(n int) int { return n })
		areApart(t, ins, func(n int) code.Ins { return code.Ins{N: n} })
	}
}

// areApart fails if what is written into one of the lists, spare room too, is seen in another one.
func areApart[T comparable](t *testing.T, lists [][]T, numbered func(n int) T) {
	t.Helper()
	number := 0
	for _, l := range lists {
		for at := range l[:cap(l)] {
			number++
			l[:cap(l)][at] = numbered(number)
		}
	}
	number = 0
	for _, l := range lists {
		for _, got := range l[:cap(l)] {
			number++
			is(t, "an element", got, numbered(number))
		}
	}
}

// A list without an element may come in as nil or as an empty one.
func TestNilAndEmptyLists(t *testing.T) {
	empty := object.Object{Module: "a", Vars: []object.Var{}, Fns: []object.Fn{}, Relocs: []object.Reloc{}}
	f := code.Fn{Sig: code.Sig{Params: []int{}, Result: 1}, Locals: []int{}, Code: fn("", "", "push 5; return").Code}
	l := all(empty, object.Object{Module: "main", Vars: []object.Var{}, Fns: []object.Fn{{Name: "main", Fn: f}}, Relocs: []object.Reloc{}})
	isImage(t, "empty lists", l, imageOf(t, five()))
	isProblem(t, "an empty list", []object.Object{}, api.ErrMain, "main", 0)
	l[1].Fns[0].Fn.Code = []code.Ins{}
	isProblem(t, "no code", l, api.ErrCode, "main", 0)
}

// What a call answers hangs on its arguments alone: the same ones once more, or at the same time, are answered alike.
func TestAnswersAreTheSameOnceMore(t *testing.T) {
	l := allLists()
	want := make([]string, len(l))
	for at := range l {
		want[at] = asked(l[at])
	}
	got := make([]string, 2*len(l))
	var workers sync.WaitGroup
	for at := range got {
		workers.Go(func() { got[at] = asked(l[at%len(l)]) })
	}
	workers.Wait()
	for at := range got {
		isText(t, fmt.Sprint("at the same time ", at), got[at], want[at%len(l)])
	}
	slices.Reverse(l)
	slices.Reverse(want)
	for at := range l {
		isText(t, fmt.Sprint("once more ", at), asked(l[at]), want[at])
	}
}
