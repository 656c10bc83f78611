package iface_test

import (
	"encoding/binary"
	"fmt"
	"slices"
	"sort"
	"strings"

	"foundry/api"
	"foundry/fold"
	"foundry/tree"
	"foundry/types"
)

// A model of the chapter's words, which takes no short way.

// modelExtract: what is shown, name by name.
func modelExtract(m api.Module, l []api.Iface) (api.Iface, int, api.Errno) {
	if e := tree.Right(m); e != api.OK {
		return api.Iface{}, 0, e
	}
	// The last one that is put in stays, so the first one of a name goes in last.
	byName := map[string]api.Iface{}
	for _, f := range slices.Backward(l) {
		byName[f.Name] = f
	}
	var imports []api.Iface
	done := map[string]bool{}
	for _, name := range m.Imports {
		f, given := byName[name]
		if !given || types.RightIface(f) != api.OK {
			return api.Iface{}, 0, api.ErrImport
		}
		if !done[name] {
			imports = append(imports, f)
		}
		done[name] = true
	}
	consts, _, at, e := fold.Decls(m, fold.Far(imports))
	if e != api.OK {
		return api.Iface{}, at, e
	}
	values := map[string]api.Value{}
	for _, c := range consts {
		values[c.Name] = c.Value
	}
	decls := map[string]api.Decl{}
	var exported []string
	for _, d := range m.Decls {
		if d.Export {
			decls[d.Name] = d
			exported = append(exported, d.Name)
		}
	}
	sort.Strings(exported)
	out := api.Iface{Name: m.Name}
	for _, name := range exported {
		d := decls[name]
		item := api.Item{Kind: d.Kind, Name: name, Type: d.Type, Bits: values[name].Bits}
		for at := range d.Params {
			item.Params = append(item.Params, d.Params[at].Type)
		}
		out.Items = append(out.Items, item)
	}
	return out, 0, api.OK
}

// modelBytes: the bytes of any interface, right or not, as they would be written; of each number its lowest bits.
func modelBytes(f api.Iface) []byte {
	return append(modelHead(f.Name, len(f.Items)), modelItems(f.Items)...)
}

// modelHead: what stands ahead of the items.
func modelHead(name string, count int) []byte {
	return binary.BigEndian.AppendUint32(modelText(nil, name), uint32(count))
}

func modelItems(items []api.Item) []byte {
	var b []byte
	for _, i := range items {
		b = modelText(append(b, byte(i.Kind)), i.Name)
		b = binary.BigEndian.AppendUint64(append(b, byte(i.Type)), i.Bits)
		b = binary.BigEndian.AppendUint32(b, uint32(len(i.Params)))
		for _, p := range i.Params {
			b = binary.BigEndian.AppendUint32(b, uint32(p))
		}
	}
	return b
}

func modelText(b []byte, s string) []byte {
	return append(binary.BigEndian.AppendUint32(b, uint32(len(s))), s...)
}

// modelDecode: an interface is looked for that has these bytes, and is right; the bytes are read in any way that fits, and only at the end it is asked what they would be written as.
func modelDecode(b []byte) (api.Iface, bool) {
	whole := slices.Clone(b)
	fits := true
	number := func(size int) uint64 {
		if len(b) < size {
			fits, b = false, nil
			return 0
		}
		var n uint64
		for _, one := range b[:size] {
			n = n*256 + uint64(one)
		}
		b = b[size:]
		return n
	}
	text := func() string {
		n := number(4)
		if n > uint64(len(b)) {
			fits, n = false, 0
		}
		s := string(b[:n])
		b = b[n:]
		return s
	}
	f := api.Iface{Name: text()}
	for n := number(4); n > 0 && fits; n-- {
		i := api.Item{Kind: int(number(1)), Name: text(), Type: int(number(1)), Bits: number(8)}
		for p := number(4); p > 0 && fits; p-- {
			i.Params = append(i.Params, int(number(4)))
		}
		f.Items = append(f.Items, i)
	}
	if !fits || len(b) > 0 || types.RightIface(f) != api.OK || string(modelBytes(f)) != string(whole) {
		return api.Iface{}, false
	}
	return f, true
}

func modelTold(f api.Iface) string {
	lines := []string{"module " + f.Name}
	for _, i := range f.Items {
		lines = append(lines, fmt.Sprintf("  %s", types.Text(i)))
	}
	return strings.Join(append(lines, ""), "\n")
}
