package object

import (
	"foundry/api"
	"foundry/code"
	"foundry/wire"
)

// mark: the bytes with which each object begins.
const mark = "fobj"

// Pack: the bytes of the object; or why it is not right.
func Pack(o Object) ([]byte, api.Errno) {
	if e := Right(o); e != api.OK {
		return nil, e
	}
	b := packed(o)
	if len(b) > api.MaxObject {
		return nil, api.ErrBig
	}
	return b, api.OK
}

// writer: writes the records of an object.
type writer struct {
	wire.Writer
}

// packed: the bytes of an object that is right.
func packed(o Object) []byte {
	var w writer
	records := [...]func(Object){w.putHead, w.putVars, w.putFns, w.putRelocs}
	for _, put := range records {
		put(o)
	}
	return w.Bytes()
}

func (w *writer) putHead(o Object) {
	for at := range len(mark) {
		w.Byte(mark[at])
	}
	w.Text(o.Module)
}

func (w *writer) putVars(o Object) {
	w.Int(len(o.Vars))
	for _, v := range o.Vars {
		w.Text(v.Name)
		w.Byte(byte(v.Value.Type))
		w.Long(v.Value.Bits)
	}
}

func (w *writer) putFns(o Object) {
	w.Int(len(o.Fns))
	for _, f := range o.Fns {
		w.Text(f.Name)
		w.putTypes(f.Fn.Sig.Params)
		w.Byte(byte(f.Fn.Sig.Result))
		w.putTypes(f.Fn.Locals)
		// Code that is right always has bytes.
		b, _ := code.Encode(f.Fn.Code)
		w.Raw(b)
	}
}

func (w *writer) putTypes(l []int) {
	w.Byte(byte(len(l)))
	for _, t := range l {
		w.Byte(byte(t))
	}
}

func (w *writer) putRelocs(o Object) {
	w.Int(len(o.Relocs))
	for _, r := range o.Relocs {
		w.Short(r.Fn)
		w.Short(r.At)
		w.Byte(byte(r.Kind))
		w.Text(r.Mod)
		w.Text(r.Name)
	}
}

// Unpack: the right object whose bytes these are. No two texts of bytes are read as one object, so it is enough that what was read is right and that nothing is left.
func Unpack(b []byte) (Object, api.Errno) {
	if len(b) > api.MaxObject {
		return Object{}, api.ErrBig
	}
	r := reader{wire.Read(b)}
	o := r.takeObject()
	r.Fail(Right(o))
	if r.Done() != api.OK {
		return Object{}, api.ErrObject
	}
	return o, api.OK
}

// reader: reads the records of an object.
type reader struct {
	*wire.Reader
}

// takeObject: what the bytes are read as, right or not.
func (r reader) takeObject() Object {
	for at := range len(mark) {
		if r.Byte() != mark[at] {
			r.Fail(api.ErrObject)
		}
	}
	return Object{
		Module: r.Text(api.MaxName),
		Vars:   takeList(r, r.Int(), r.takeVar),
		Fns:    takeList(r, r.Int(), r.takeFn),
		Relocs: takeList(r, r.Int(), r.takeReloc),
	}
}

// takeList: n of them, or those ahead of a failure, so that no more are looked for than the bytes have, whatever number was read.
func takeList[T any](r reader, n int, take func() T) []T {
	var l []T
	for range n {
		if r.Error() != api.OK {
			break
		}
		l = append(l, take())
	}
	return l
}

func (r reader) takeVar() Var {
	return Var{Name: r.Text(api.MaxName), Value: api.Value{Type: r.takeType(), Bits: r.Long()}}
}

func (r reader) takeFn() Fn {
	var f Fn
	f.Name = r.Text(api.MaxName)
	f.Fn.Sig.Params = r.takeTypes()
	f.Fn.Sig.Result = r.takeType()
	f.Fn.Locals = r.takeTypes()
	f.Fn.Code = r.takeCode()
	return f
}

func (r reader) takeCode() []code.Ins {
	l, e := code.Decode(r.Raw(api.MaxObject))
	r.Fail(e)
	return l
}

func (r reader) takeTypes() []int {
	return takeList(r, int(r.Byte()), r.takeType)
}

func (r reader) takeType() int {
	return int(r.Byte())
}

func (r reader) takeReloc() Reloc {
	return Reloc{Fn: r.Short(), At: r.Short(), Kind: int(r.Byte()), Mod: r.Text(api.MaxName), Name: r.Text(api.MaxName)}
}
