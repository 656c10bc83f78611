package object_test

import (
	"encoding/binary"
	"fmt"
	"slices"
	"sort"
	"strings"

	"foundry/api"
	"foundry/code"
	"foundry/names"
	"foundry/object"
	"foundry/types"
)

// A model of the chapter's words, which takes no short way: all that is wrong is listed in the order of the chapter, and the first of it counts.

func modelRight(o object.Object) api.Errno {
	wrong := []api.Errno{names.Right(o.Module)}
	add := func(e api.Errno, applies bool) {
		if applies {
			wrong = append(wrong, e)
		}
	}
	add(api.ErrBig, len(o.Vars)+len(o.Fns) > 64)
	var ahead []string
	for _, v := range o.Vars {
		add(names.Right(v.Name), true)
		add(api.ErrTwice, slices.Contains(ahead, v.Name))
		add(api.ErrObject, !types.Right(v.Value))
		ahead = append(ahead, v.Name)
	}
	for _, f := range o.Fns {
		add(names.Right(f.Name), true)
		add(api.ErrTwice, slices.Contains(ahead, f.Name))
		add(api.ErrObject, !modelFn(f.Fn))
		ahead = append(ahead, f.Name)
	}
	add(api.ErrObject, !modelPlaces(o))
	for _, r := range o.Relocs {
		add(names.Right(r.Mod), true)
		add(names.Right(r.Name), true)
	}
	for _, r := range o.Relocs {
		isVar := slices.ContainsFunc(o.Vars, func(v object.Var) bool { return v.Name == r.Name })
		isFn := slices.ContainsFunc(o.Fns, func(f object.Fn) bool { return f.Name == r.Name })
		own := r.Mod == o.Module
		add(api.ErrObject, own && r.Kind == 1 && !isVar)
		add(api.ErrObject, own && r.Kind == 2 && !isFn)
		add(api.ErrObject, !own && r.Kind == 1)
	}
	for _, e := range wrong {
		if e != api.OK {
			return e
		}
	}
	return api.OK
}

func modelFn(f code.Fn) bool {
	if len(f.Sig.Params) > 8 || len(f.Locals) > 64 || len(f.Code) > 4096 {
		return false
	}
	for _, t := range slices.Concat(f.Sig.Params, f.Locals) {
		if t != 1 && t != 2 && t != 3 {
			return false
		}
	}
	for _, i := range f.Code {
		if !code.Right(i) {
			return false
		}
	}
	return slices.Contains([]int{0, 1, 2, 3}, f.Sig.Result)
}

// modelPlaces: each open place is asked for its Relocs, each Reloc for its open place, and each two neighbours for their order.
func modelPlaces(o object.Object) bool {
	for fn, f := range o.Fns {
		for at, i := range f.Fn.Code {
			if kindOf(i.Op) == 0 {
				continue
			}
			here := 0
			for _, r := range o.Relocs {
				if r.Fn == fn && r.At == at {
					here++
				}
			}
			if i.N != 0 || here != 1 {
				return false
			}
		}
	}
	for n, r := range o.Relocs {
		if r.Fn < 0 || r.Fn >= len(o.Fns) || r.At < 0 || r.At >= len(o.Fns[r.Fn].Fn.Code) {
			return false
		}
		if kind := kindOf(o.Fns[r.Fn].Fn.Code[r.At].Op); kind == 0 || kind != r.Kind {
			return false
		}
		if n > 0 && (o.Relocs[n-1].Fn > r.Fn || o.Relocs[n-1].Fn == r.Fn && o.Relocs[n-1].At > r.At) {
			return false
		}
	}
	return true
}

// modelBytes: the bytes of any object, right or not, as they would be written; of each number its lowest bits.
func modelBytes(o object.Object) []byte {
	b := appendText([]byte{'f', 'o', 'b', 'j'}, o.Module)
	b = appendInt(b, len(o.Vars))
	for _, v := range o.Vars {
		b = append(appendText(b, v.Name), byte(v.Value.Type))
		b = binary.BigEndian.AppendUint64(b, v.Value.Bits)
	}
	b = appendInt(b, len(o.Fns))
	for _, f := range o.Fns {
		b = appendTypes(appendText(b, f.Name), f.Fn.Sig.Params)
		b = appendTypes(append(b, byte(f.Fn.Sig.Result)), f.Fn.Locals)
		b = appendText(b, string(modelCode(f.Fn.Code)))
	}
	b = appendInt(b, len(o.Relocs))
	for _, r := range o.Relocs {
		b = binary.BigEndian.AppendUint16(b, uint16(r.Fn))
		b = binary.BigEndian.AppendUint16(b, uint16(r.At))
		b = append(b, byte(r.Kind))
		b = appendText(appendText(b, r.Mod), r.Name)
	}
	return b
}

func appendInt(b []byte, n int) []byte {
	return binary.BigEndian.AppendUint32(b, uint32(n))
}

func appendText(b []byte, s string) []byte {
	return append(appendInt(b, len(s)), s...)
}

func appendTypes(b []byte, l []int) []byte {
	b = append(b, byte(len(l)))
	for _, t := range l {
		b = append(b, byte(t))
	}
	return b
}

// operandBytes: how many bytes stand behind an Op's one.
func operandBytes(op int) int {
	return map[int]int{1: 9, 2: 1, 3: 1, 4: 2, 5: 2, 6: 1, 7: 1, 8: 2, 9: 2, 10: 2, 15: 2}[op]
}

func modelCode(l []code.Ins) []byte {
	var b []byte
	for _, i := range l {
		b = append(b, byte(i.Op))
		switch operandBytes(i.Op) {
		case 9:
			b = binary.BigEndian.AppendUint64(append(b, byte(i.V.Type)), i.V.Bits)
		case 2:
			b = binary.BigEndian.AppendUint16(b, uint16(i.N))
		case 1:
			b = append(b, byte(i.N))
		}
	}
	return b
}

// bytesLeft: bytes that are read in any way that fits.
type bytesLeft struct {
	b    []byte
	fits bool
}

func (l *bytesLeft) raw(n int) []byte {
	if n > len(l.b) {
		l.b, l.fits = nil, false
		return make([]byte, min(n, 8))
	}
	b := l.b[:n]
	l.b = l.b[n:]
	return b
}

func (l *bytesLeft) small() int {
	return int(l.raw(1)[0])
}

func (l *bytesLeft) short() int {
	return int(binary.BigEndian.Uint16(l.raw(2)))
}

func (l *bytesLeft) number() int {
	return int(binary.BigEndian.Uint32(l.raw(4)))
}

func (l *bytesLeft) text() string {
	return string(l.raw(l.number()))
}

func (l *bytesLeft) types() []int {
	var all []int
	for range l.small() {
		all = append(all, l.small())
	}
	return all
}

func (l *bytesLeft) code() []code.Ins {
	in := bytesLeft{l.raw(l.number()), true}
	var all []code.Ins
	for in.fits && len(in.b) > 0 {
		i := code.Ins{Op: in.small()}
		switch operandBytes(i.Op) {
		case 9:
			i.V = api.Value{Type: in.small(), Bits: binary.BigEndian.Uint64(in.raw(8))}
		case 2:
			i.N = in.short()
		case 1:
			i.N = in.small()
		}
		all = append(all, i)
	}
	l.fits = l.fits && in.fits
	return all
}

// modelUnpack: only at the end it is asked whether what was read is right, and what it would be written as.
func modelUnpack(b []byte) (object.Object, api.Errno) {
	if len(b) > 16384 {
		return object.Object{}, api.ErrBig
	}
	l := bytesLeft{b, true}
	l.raw(4)
	o := object.Object{Module: l.text()}
	for n := l.number(); n > 0 && l.fits; n-- {
		v := object.Var{Name: l.text()}
		v.Value.Type = l.small()
		v.Value.Bits = binary.BigEndian.Uint64(l.raw(8))
		o.Vars = append(o.Vars, v)
	}
	for n := l.number(); n > 0 && l.fits; n-- {
		f := object.Fn{Name: l.text()}
		f.Fn.Sig.Params = l.types()
		f.Fn.Sig.Result = l.small()
		f.Fn.Locals = l.types()
		f.Fn.Code = l.code()
		o.Fns = append(o.Fns, f)
	}
	for n := l.number(); n > 0 && l.fits; n-- {
		r := object.Reloc{Fn: l.short(), At: l.short(), Kind: l.small()}
		r.Mod = l.text()
		r.Name = l.text()
		o.Relocs = append(o.Relocs, r)
	}
	if !l.fits || len(l.b) > 0 || modelRight(o) != api.OK || string(modelBytes(o)) != string(b) {
		return object.Object{}, api.ErrObject
	}
	return o, api.OK
}

// modelPacked: what Pack has to answer, as one text.
func modelPacked(o object.Object) string {
	b := modelBytes(o)
	switch e := modelRight(o); {
	case e != api.OK:
		return bytesTold(nil, e)
	case len(b) > 16384:
		return bytesTold(nil, api.ErrBig)
	}
	return bytesTold(b, api.OK)
}

func modelText(o object.Object) string {
	if modelRight(o) != api.OK {
		return ""
	}
	text := fmt.Sprintf("object %s\n", o.Module)
	for _, v := range o.Vars {
		text += fmt.Sprintf("var %s %s\n", v.Name, types.Show(v.Value))
	}
	for fn, f := range o.Fns {
		text += fmt.Sprintf("fn %s\n", f.Name)
		for at, i := range f.Fn.Code {
			text += "  " + code.Text(i)
			for _, r := range o.Relocs {
				if r.Fn == fn && r.At == at {
					text += fmt.Sprintf(" @%s.%s", r.Mod, r.Name)
				}
			}
			text += "\n"
		}
	}
	return text
}

func modelDefines(o object.Object) string {
	var l []string
	for _, v := range o.Vars {
		l = append(l, v.Name)
	}
	for _, f := range o.Fns {
		l = append(l, f.Name)
	}
	sort.Strings(l)
	return strings.Join(l, " ")
}

func modelNeeds(o object.Object) string {
	needed := map[string]bool{}
	for _, r := range o.Relocs {
		if r.Mod != o.Module {
			needed[r.Mod+"."+r.Name] = true
		}
	}
	var l []string
	for far := range needed {
		l = append(l, far)
	}
	sort.Strings(l)
	return strings.Join(l, " ")
}
