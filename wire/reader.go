package wire

import (
	"bytes"

	"foundry/api"
)

// Reader: bytes that are read.
type Reader struct {
	rest   []byte // what is not taken yet; nothing behind a failure
	failed api.Errno
}

// giveUp: what a reader that can't go on panics with; a type of its own, so that no other panic is taken for it.
type giveUp struct {
	why api.Errno
}

// Read: at the first byte.
func Read(b []byte) *Reader {
	return &Reader{rest: bytes.Clone(b)}
}

// Byte takes one byte.
func (r *Reader) Byte() byte {
	return face(r, r.takeByte)
}

// Bool takes one byte, 0 or 1.
func (r *Reader) Bool() bool {
	return face(r, r.takeBool)
}

// Short takes a number of two bytes.
func (r *Reader) Short() int {
	return face(r, r.takeShort)
}

// Int takes a number of four bytes, 2^31 - 1 at most.
func (r *Reader) Int() int {
	return face(r, r.takeInt)
}

// Long takes a number of eight bytes.
func (r *Reader) Long() uint64 {
	return face(r, r.takeLong)
}

// Text takes a text of most bytes at most.
func (r *Reader) Text(most int) string {
	return face(r, func() string { return r.takeText(max(most, 0)) })
}

// Raw takes most bytes at most, in new memory.
func (r *Reader) Raw(most int) []byte {
	return face(r, func() []byte { return r.takeRaw(max(most, 0)) })
}

// Ints takes most ints at most.
func (r *Reader) Ints(most int) []int {
	return face(r, func() []int { return takeList(r, max(most, 0), r.takeInt) })
}

// Texts takes most texts at most, of long bytes at most each.
func (r *Reader) Texts(most, long int) []string {
	takeOne := func() string { return r.takeText(long) }
	return face(r, func() []string { return takeList(r, max(most, 0), takeOne) })
}

// Left: how many bytes are not taken yet.
func (r *Reader) Left() int {
	if r == nil {
		return 0
	}
	return len(r.rest)
}

// Fail keeps the error, if it is the first one, and drops what is left.
func (r *Reader) Fail(e api.Errno) {
	if r == nil || e == api.OK || r.failed != api.OK {
		return
	}
	r.failed = e
	r.rest = nil
}

// Error: the error that is kept.
func (r *Reader) Error() api.Errno {
	if r == nil {
		return api.ErrNil
	}
	return r.failed
}

// Done: the error that is kept, or ErrMore where bytes are left.
// It is asked, not kept: the bytes that are left may still be taken.
func (r *Reader) Done() api.Errno {
	e := r.Error()
	if e == api.OK && r.Left() > 0 {
		return api.ErrMore
	}
	return e
}

// face answers what take takes, or zero where it gives up; that is kept as the reader's failure.
func face[T any](r *Reader, take func() T) (taken T) {
	if r.Error() != api.OK {
		return taken
	}
	defer func() {
		switch p := recover().(type) {
		case nil:
		case giveUp:
			r.Fail(p.why)
		default:
			panic(p)
		}
	}()
	return take()
}

// take: the next n bytes.
func (r *Reader) take(n int) []byte {
	if n > len(r.rest) {
		panic(giveUp{api.ErrEnds})
	}
	taken := r.rest[:n]
	r.rest = r.rest[n:]
	return taken
}

// takeNumber: a number of that many bytes.
func (r *Reader) takeNumber(size int) uint64 {
	var n uint64
	for _, b := range r.take(size) {
		n = n<<8 | uint64(b)
	}
	return n
}

func (r *Reader) takeByte() byte {
	return byte(r.takeNumber(1))
}

func (r *Reader) takeBool() bool {
	b := r.takeByte()
	if b > 1 {
		panic(giveUp{api.ErrValue})
	}
	return b == 1
}

func (r *Reader) takeShort() int {
	return int(r.takeNumber(shortSize))
}

func (r *Reader) takeInt() int {
	n := r.takeNumber(intSize)
	if n > greatestInt {
		panic(giveUp{api.ErrValue})
	}
	return int(n)
}

func (r *Reader) takeLong() uint64 {
	return r.takeNumber(longSize)
}

// takeCount: how many follow. More than most is told before it is asked whether they are there.
func (r *Reader) takeCount(most int) int {
	n := r.takeInt()
	if n > most {
		panic(giveUp{api.ErrBig})
	}
	return n
}

func (r *Reader) takeText(most int) string {
	return string(r.take(r.takeCount(most)))
}

func (r *Reader) takeRaw(most int) []byte {
	return bytes.Clone(r.take(r.takeCount(most)))
}

// takeList: how many, and each of them.
// Each one has an int at least: room is made for no more of them than what is left can hold, whatever number was read.
func takeList[T any](r *Reader, most int, takeOne func() T) []T {
	n := r.takeCount(most)
	list := make([]T, 0, min(n, len(r.rest)/intSize))
	for range n {
		list = append(list, takeOne())
	}
	return list
}
