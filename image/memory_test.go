package image_test

import (
	"fmt"
	"sync"
	"testing"

	"foundry/api"
	"foundry/code"
	"foundry/image"
)

// allImages: right ones and others.
func allImages() []image.Image {
	l := someImages()
	for _, wrong := range wrongImages() {
		l = append(l, wrong.i)
	}
	for seed := range uint64(40) {
		l = append(l, made(seed))
	}
	return append(l, faultless(), sized(65536), sized(65537), sizedByParts(65536))
}

// asked: all that the calls answer of two images, as one text.
func asked(i, other image.Image) string {
	b := modelBytes(i)
	return fmt.Sprint(image.Right(i), frameKey(image.Frame(i)), packed(i), image.Same(i, other), image.Same(other, i), image.Text(i), unpacked(b), image.Sum(b))
}

func scribble[T any](l []T, x T) {
	l = l[:cap(l)]
	for at := range l {
		l[at] = x
	}
}

// spoil writes over all that the image's lists have, spare room too.
func spoil(i image.Image) {
	for _, f := range i.Fns[:cap(i.Fns)] {
		scribble(f.Sig.Params, 99)
		scribble(f.Locals, 99)
		scribble(f.Code, code.Ins{Op: 99})
	}
	scribble(i.Vars, num(99))
	scribble(i.Fns, code.Fn{Locals: []int{99}})
}

func spoilFrame(p code.Frame) {
	for _, s := range p.Fns[:cap(p.Fns)] {
		scribble(s.Params, 99)
	}
	scribble(p.Fns, code.Sig{Result: 99})
	scribble(p.Vars, 99)
}

// What is handed in stays as it was.

func TestWhatIsHandedInStays(t *testing.T) {
	l := allImages()
	for at := range l {
		i, other := roomy(l[at]), roomy(l[(at+1)%len(l)])
		ahead, otherAhead := whole(i), whole(other)
		asked(i, other)
		isText(t, "the image", whole(i), ahead)
		isText(t, "the other image", whole(other), otherAhead)
		b := spared(modelBytes(i), 77)
		bytesAhead := fmt.Sprint(b[:cap(b)])
		image.Unpack(b)
		image.Unpack(b[:len(b)/2])
		image.Sum(b)
		isText(t, "the bytes", fmt.Sprint(b[:cap(b)]), bytesAhead)
	}
}

// What is handed out is nobody else's.

func TestPackSharesNothing(t *testing.T) {
	for _, i := range allImages() {
		i = roomy(i)
		want, ahead := packed(i), whole(i)
		first, e := image.Pack(i)
		second, _ := image.Pack(i)
		scribble(first, 99)
		isText(t, "the other answer", bytesTold(second, e), want)
		isText(t, "the image", whole(i), ahead)
		isText(t, "once more", packed(i), want)
		spoil(i)
		isText(t, "the other answer, with the image written over", bytesTold(second, e), want)
	}
}

func TestUnpackSharesNothing(t *testing.T) {
	for _, i := range allImages() {
		b := spared(modelBytes(i), 77)
		ahead, want := fmt.Sprint(b[:cap(b)]), unpacked(b)
		first, e := image.Unpack(b)
		second, _ := image.Unpack(b)
		spoil(first)
		isText(t, "the bytes", fmt.Sprint(b[:cap(b)]), ahead)
		isText(t, "the other answer", imageTold(second, e), want)
		scribble(b, 99)
		isText(t, "the other answer, with the bytes written over", imageTold(second, e), want)
	}
}

func TestFrameSharesNothing(t *testing.T) {
	for _, i := range allImages() {
		i = roomy(i)
		first, second := image.Frame(i), image.Frame(i)
		want, ahead := frameKey(first), whole(i)
		spoilFrame(first)
		isText(t, "the other answer", frameKey(second), want)
		isText(t, "the image", whole(i), ahead)
		spoil(i)
		isText(t, "the other answer, with the image written over", frameKey(second), want)
	}
}

// No two lists of one answer stand in the same memory, nor in one another's spare room.
func TestListsOfOneAnswerAreApart(t *testing.T) {
	long := fn("", "iii", "return; show; show; show; show")
	i := img(five(), fn("i", "fb", "return"), fn("ifb", "i", "return"), long, fn("bbbbb", "", "return; return"), long)
	back, e := image.Unpack(bytesOf(t, i))
	is(t, "Unpack", e, api.OK)
	var lists [][]int
	for _, f := range back.Fns {
		lists = append(lists, f.Sig.Params, f.Locals)
	}
	areApart(t, lists)
	number := 0
	for _, f := range back.Fns {
		l := f.Code[:cap(f.Code)]
		for at := range l {
			number++
			l[at].N = number
		}
	}
	number = 0
	for _, f := range back.Fns {
		for _, got := range f.Code[:cap(f.Code)] {
			number++
			is(t, "an instruction", got.N, number)
		}
	}
	// The same list, handed in more than once, comes out as lists of their own.
	i.Fns = append(i.Fns, i.Fns[2], i.Fns[2])
	p := image.Frame(withVars(i, num(1), num(2)))
	lists = [][]int{p.Vars}
	for _, s := range p.Fns {
		lists = append(lists, s.Params)
	}
	areApart(t, lists)
}

// areApart fails if what is written into one of the lists, spare room too, is seen in another one.
func areApart(t *testing.T, lists [][]int) {
	t.Helper()
	number := 0
	for _, l := range lists {
		for at := range l[:cap(l)] {
			number++
			l[:cap(l)][at] = number
		}
	}
	number = 0
	for _, l := range lists {
		for _, got := range l[:cap(l)] {
			number++
			is(t, "a number", got, number)
		}
	}
}

// What a call answers hangs on its arguments alone: the same ones once more, or at the same time, are answered alike.
func TestAnswersAreTheSameOnceMore(t *testing.T) {
	l := allImages()
	tell := func(at int) string {
		return asked(l[at], l[(at+1)%len(l)])
	}
	want := make([]string, len(l))
	for at := range l {
		want[at] = tell(at)
	}
	got := make([]string, len(l))
	var workers sync.WaitGroup
	for at := range l {
		workers.Go(func() { got[at] = tell(at) })
	}
	workers.Wait()
	for at := range l {
		isText(t, fmt.Sprint("at the same time ", at), got[at], want[at])
		isText(t, fmt.Sprint("once more ", at), tell(at), want[at])
	}
}
