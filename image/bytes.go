package image

import (
	"bytes"

	"foundry/api"
	"foundry/code"
	"foundry/wire"
)

// mark: the bytes with which each image begins.
const mark = "fimg"

// seal: the bytes of a Sum, with which each image ends.
type seal [4]byte

// The numbers of FNV-1a of 32 bits.
const (
	sumStart = 2166136261
	sumPrime = 16777619
)

// Sum: FNV-1a of 32 bits.
func Sum(b []byte) uint32 {
	sum := uint32(sumStart)
	for _, one := range b {
		sum = (sum ^ uint32(one)) * sumPrime
	}
	return sum
}

// sealOf: all 32 bits of the Sum, which an int of wire has no room for.
func sealOf(b []byte) seal {
	sum := Sum(b)
	return seal{byte(sum >> 24), byte(sum >> 16), byte(sum >> 8), byte(sum)}
}

// Pack: the bytes of the image; or why it is not right.
func Pack(i Image) ([]byte, api.Errno) {
	if e := Right(i); e != api.OK {
		return nil, e
	}
	b := written(i)
	end := sealOf(b)
	b = append(b, end[:]...)
	if len(b) > api.MaxImage {
		return nil, api.ErrBig
	}
	return b, api.OK
}

// Unpack: the right image whose bytes these are. What is read need not be asked how it was read: only of an image's own bytes it is written as they are.
func Unpack(b []byte) (Image, api.Errno) {
	if len(b) > api.MaxImage {
		return Image{}, api.ErrBig
	}
	inner, whole := opened(b)
	if !whole {
		return Image{}, api.ErrImage
	}
	i := read(inner)
	if Right(i) != api.OK || !bytes.Equal(written(i), inner) {
		return Image{}, api.ErrImage
	}
	return i, api.OK
}

// opened: what stands ahead of the seal, and true, if the seal is that of it.
func opened(b []byte) ([]byte, bool) {
	at := len(b) - len(seal{})
	if at < 0 {
		return nil, false
	}
	return b[:at], seal(b[at:]) == sealOf(b[:at])
}

// writer: writes the parts of an image.
type writer struct {
	wire.Writer
}

// written: the bytes of an image that is right, but for the seal.
func written(i Image) []byte {
	var w writer
	for at := range len(mark) {
		w.Byte(mark[at])
	}
	w.Int(len(i.Vars))
	for _, v := range i.Vars {
		w.Byte(byte(v.Type))
		w.Long(v.Bits)
	}
	w.Int(len(i.Fns))
	for _, f := range i.Fns {
		w.putFn(f)
	}
	w.Int(i.Main)
	return w.Bytes()
}

func (w *writer) putFn(f code.Fn) {
	w.putTypes(f.Sig.Params)
	w.Byte(byte(f.Sig.Result))
	w.putTypes(f.Locals)
	// Code that is right always has bytes.
	b, _ := code.Encode(f.Code)
	w.Raw(b)
}

func (w *writer) putTypes(l []int) {
	w.Byte(byte(len(l)))
	for _, t := range l {
		w.Byte(byte(t))
	}
}

// reader: reads the parts of an image.
type reader struct {
	*wire.Reader
}

// read: what the bytes are read as, right or not; the parts behind a failure are zero.
func read(b []byte) Image {
	r := reader{wire.Read(b)}
	for range len(mark) {
		r.Byte()
	}
	return Image{
		Vars: takeList(r, r.Int(), r.takeVar),
		Fns:  takeList(r, r.Int(), r.takeFn),
		Main: r.Int(),
	}
}

// takeList: n of them, or those ahead of a failure, so that no more are looked for than the bytes have, whatever number was read.
func takeList[T any](r reader, n int, take func() T) []T {
	var l []T
	for range n {
		if r.Error() != api.OK {
			break
		}
		l = append(l, take())
	}
	return l
}

func (r reader) takeVar() api.Value {
	return api.Value{Type: r.takeType(), Bits: r.Long()}
}

func (r reader) takeFn() code.Fn {
	var f code.Fn
	f.Sig.Params = r.takeTypes()
	f.Sig.Result = r.takeType()
	f.Locals = r.takeTypes()
	// Bytes that are no code are read as none, which is written otherwise.
	f.Code, _ = code.Decode(r.Raw(api.MaxImage))
	return f
}

func (r reader) takeTypes() []int {
	return takeList(r, int(r.Byte()), r.takeType)
}

func (r reader) takeType() int {
	return int(r.Byte())
}
