package iface

import (
	"errors"

	"foundry/api"
	"foundry/types"
	"foundry/wire"
)

// Encode: the bytes of the interface; or why it is not right.
func Encode(f api.Iface) ([]byte, api.Errno) {
	if e := types.RightIface(f); e != api.OK {
		return nil, e
	}
	var w wire.Writer
	w.Text(f.Name)
	w.Int(len(f.Items))
	for _, i := range f.Items {
		putItem(&w, i)
	}
	return w.Bytes(), api.OK
}

func putItem(w *wire.Writer, i api.Item) {
	w.Byte(byte(i.Kind))
	w.Text(i.Name)
	w.Byte(byte(i.Type))
	w.Long(i.Bits)
	w.Ints(i.Params)
}

// Decode: the right interface whose bytes these are. No two texts of bytes are read as one interface, so it is enough that what was read is right and that nothing is left.
func Decode(b []byte) (api.Iface, api.Errno) {
	r := wire.Read(b)
	var f api.Iface
	f.Name = r.Text(api.MaxName)
	f.Items = takeItems(r)
	r.Fail(types.RightIface(f))
	if !errors.Is(r.Done(), api.OK) {
		return api.Iface{}, api.ErrIface
	}
	return f, api.OK
}

// takeItems: how many, and each of them. More than there may be are not even looked for, whatever number was read.
func takeItems(r *wire.Reader) []api.Item {
	n := r.Int()
	if n > api.MaxItems {
		r.Fail(api.ErrBig)
		return nil
	}
	var items []api.Item
	for range n {
		items = append(items, takeItem(r))
	}
	return items
}

func takeItem(r *wire.Reader) api.Item {
	var i api.Item
	i.Kind = int(r.Byte())
	i.Name = r.Text(api.MaxName)
	i.Type = int(r.Byte())
	i.Bits = r.Long()
	i.Params = r.Ints(api.MaxParams)
	return i
}
