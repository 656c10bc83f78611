package object_test

import (
	"fmt"
	"math"
	"slices"
	"strconv"
	"strings"
	"testing"

	"foundry/api"
	"foundry/code"
	"foundry/floats"
	"foundry/object"
)

// is fails unless got is what it has to be.
func is[T comparable](t *testing.T, what string, got, want T) {
	t.Helper()
	if got != want {
		t.Errorf("%s: %v, not %v", what, got, want)
	}
}

func num(n int64) api.Value {
	return api.Value{Type: api.TInt, Bits: uint64(n)}
}

func float(f float64) api.Value {
	return api.Value{Type: api.TFloat, Bits: math.Float64bits(f)}
}

func truth(bits uint64) api.Value {
	return api.Value{Type: api.TBool, Bits: bits}
}

// long: a text of n letters.
func long(n int) string {
	return strings.Repeat("a", n)
}

func times[T any](n int, x T) []T {
	return slices.Repeat([]T{x}, n)
}

// opWords: the instructions by their numbers, written down once more.
func opWords() []string {
	return []string{1: "push", 2: "get", 3: "put", 4: "load", 5: "store", 6: "un", 7: "bin", 8: "jump", 9: "unless", 10: "call",
		11: "return", 12: "show", 13: "fail", 14: "input", 15: "try", 16: "untry", 17: "drop"}
}

// kindOf: of an open place's Op what belongs there; 0 of another one.
func kindOf(op int) int {
	return map[int]int{4: 1, 5: 1, 10: 2}[op]
}

// asm: the instructions of a text, with a semicolon between two, and the Relocs of its open places, such as `load @m.v`. What is pushed is an int; operands are numbers.
func asm(text string) ([]code.Ins, []object.Reloc) {
	var l []code.Ins
	var relocs []object.Reloc
	for line := range strings.SplitSeq(text, ";") {
		words := strings.Fields(line)
		if len(words) == 0 {
			continue
		}
		i := code.Ins{Op: slices.Index(opWords(), words[0])}
		if i.Op < 1 {
			panic("no instruction: " + line)
		}
		if len(words) > 1 {
			if far, open := strings.CutPrefix(words[1], "@"); open {
				mod, name, _ := strings.Cut(far, ".")
				relocs = append(relocs, object.Reloc{At: len(l), Kind: kindOf(i.Op), Mod: mod, Name: name})
			} else {
				i = withOperand(i, words[1])
			}
		}
		l = append(l, i)
	}
	return l, relocs
}

func withOperand(i code.Ins, word string) code.Ins {
	n, err := strconv.Atoi(word)
	if err != nil {
		panic("no operand: " + word)
	}
	if i.Op == 1 {
		i.V = num(int64(n))
	} else {
		i.N = n
	}
	return i
}

// part: what is put into an object.
type part func(o *object.Object)

// obj: an object of a module.
func obj(module string, parts ...part) object.Object {
	o := object.Object{Module: module}
	for _, put := range parts {
		put(&o)
	}
	return o
}

func variable(name string, v api.Value) part {
	return func(o *object.Object) {
		o.Vars = append(o.Vars, object.Var{Name: name, Value: v})
	}
}

// function: one with the code of a text, and the Relocs of its open places.
func function(name, text string) part {
	l, relocs := asm(text)
	return func(o *object.Object) {
		for _, r := range relocs {
			r.Fn = len(o.Fns)
			o.Relocs = append(o.Relocs, r)
		}
		o.Fns = append(o.Fns, object.Fn{Name: name, Fn: code.Fn{Code: l}})
	}
}

// typed: a function without code.
func typed(name string, params []int, result int, locals []int) part {
	return func(o *object.Object) {
		o.Fns = append(o.Fns, object.Fn{Name: name, Fn: code.Fn{Sig: code.Sig{Params: params, Result: result}, Locals: locals}})
	}
}

// coded: a function of these instructions, without a Reloc.
func coded(name string, l ...code.Ins) part {
	return func(o *object.Object) {
		o.Fns = append(o.Fns, object.Fn{Name: name, Fn: code.Fn{Code: l}})
	}
}

func reloc(fn, at, kind int, mod, name string) part {
	return func(o *object.Object) {
		o.Relocs = append(o.Relocs, object.Reloc{Fn: fn, At: at, Kind: kind, Mod: mod, Name: name})
	}
}

// items: so many variables and functions.
func items(vars, fns int) []part {
	var l []part
	for at := range vars {
		l = append(l, variable(fmt.Sprint("v", at), num(int64(at))))
	}
	for at := range fns {
		l = append(l, typed(fmt.Sprint("f", at), nil, at%4, nil))
	}
	return l
}

// rightValues: values of each type, the edges too, no two alike.
func rightValues() []api.Value {
	l := []api.Value{truth(0), truth(1), {Type: api.TFloat, Bits: floats.NaN}}
	for _, n := range []int64{0, 1, 2, -1, 255, 0x0102030405060708, math.MinInt64, math.MaxInt64} {
		l = append(l, num(n))
	}
	for _, f := range []float64{0, math.Copysign(0, -1), 1, 1.5, math.MaxFloat64, math.SmallestNonzeroFloat64, math.Inf(1), math.Inf(-1)} {
		l = append(l, float(f))
	}
	return l
}

func wrongValues() []api.Value {
	return []api.Value{
		{}, {Bits: 1}, {Type: 4}, {Type: -1}, {Type: 257, Bits: 1}, {Type: 1<<32 + 1}, {Type: math.MinInt}, {Type: math.MaxInt},
		truth(2), truth(math.MaxUint64), {Type: api.TFloat, Bits: floats.NaN + 1}, {Type: api.TFloat, Bits: 0x7ff0000000000001}, {Type: api.TFloat, Bits: 0xfff8000000000000},
	}
}

// wrongIns: instructions that are not right, open places that have too great an N too.
func wrongIns() []code.Ins {
	return []code.Ins{
		{}, {Op: -1}, {Op: 18}, {Op: 256 + 11}, {Op: math.MaxInt}, {Op: 1}, {Op: 1, N: 1, V: num(1)}, {Op: 1, V: truth(2)}, {Op: 2, N: -1}, {Op: 2, N: 256}, {Op: 2, V: num(1)},
		{Op: 3, N: 256}, {Op: 4, N: -1}, {Op: 4, N: 65536}, {Op: 4, V: num(1)}, {Op: 5, N: 65536}, {Op: 6}, {Op: 6, N: 5}, {Op: 7}, {Op: 7, N: 12}, {Op: 8, N: 65536}, {Op: 9, N: -1},
		{Op: 10, N: 65536}, {Op: 10, V: truth(1)}, {Op: 11, N: 1}, {Op: 12, N: 1}, {Op: 13, V: num(1)}, {Op: 14, N: -1}, {Op: 15, N: 65536}, {Op: 16, N: 1}, {Op: 17, N: 1},
	}
}

// strangeTypes: numbers that are no types of values and not TNone, some of which would be one in a byte.
func strangeTypes() []int {
	return []int{-1, 4, 5, 127, 128, 255, 256, 257, 258, 1<<16 + 1, 1<<32 + 1, math.MinInt, math.MinInt + 1, math.MaxInt}
}

// fnKey: all that a function has; of what stands in spare room nothing.
func fnKey(f object.Fn) string {
	return fmt.Sprintf("fn %q %v %d %v %+v", f.Name, f.Fn.Sig.Params, f.Fn.Sig.Result, f.Fn.Locals, f.Fn.Code)
}

// key: all that an object has, lists without an element being alike; unlike objects have unlike keys.
func key(o object.Object) string {
	text := fmt.Sprintf("object %q %d %d %d", o.Module, len(o.Vars), len(o.Fns), len(o.Relocs))
	for _, v := range o.Vars {
		text += fmt.Sprintf("\nvar %q %d %x", v.Name, v.Value.Type, v.Value.Bits)
	}
	for _, f := range o.Fns {
		text += "\n" + fnKey(f)
	}
	for _, r := range o.Relocs {
		text += fmt.Sprintf("\nreloc %d %d %d %q %q", r.Fn, r.At, r.Kind, r.Mod, r.Name)
	}
	return text
}

// short: a text as it stands in a fault's report.
func short(text string) string {
	if len(text) <= 600 {
		return text
	}
	return text[:600] + ".."
}

// packed: what Pack answers, as one text.
func packed(o object.Object) string {
	b, e := object.Pack(o)
	return bytesTold(b, e)
}

func bytesTold(b []byte, e api.Errno) string {
	return fmt.Sprintf("%x %d", b, int(e))
}

// unpacked: what Unpack answers, as one text.
func unpacked(b []byte) string {
	return objectTold(object.Unpack(b))
}

func objectTold(o object.Object, e api.Errno) string {
	return fmt.Sprint(key(o), " ", int(e))
}

func noObject() string {
	return objectTold(object.Object{}, api.ErrObject)
}

// spared: the list by itself, with something in its spare room.
func spared[T any](l []T, spare T) []T {
	c := append(make([]T, 0, len(l)+2), l...)
	return append(c, spare, spare)[:len(l)]
}

// roomy: the object in memory of its own, with spare room in each list.
func roomy(o object.Object) object.Object {
	o.Vars = spared(o.Vars, object.Var{Name: "spare", Value: num(77)})
	o.Fns = spared(o.Fns, object.Fn{Name: "spare"})
	o.Relocs = spared(o.Relocs, object.Reloc{Fn: 77, Name: "spare"})
	for at := range o.Fns {
		f := &o.Fns[at].Fn
		f.Sig.Params, f.Locals, f.Code = spared(f.Sig.Params, 77), spared(f.Locals, 77), spared(f.Code, code.Ins{Op: 77})
	}
	return o
}

// whole: all that the object has, what stands in the spare room too.
func whole(o object.Object) string {
	text := fmt.Sprintf("%q %d %+v %d %+v %d", o.Module, len(o.Vars), o.Vars[:cap(o.Vars)], len(o.Relocs), o.Relocs[:cap(o.Relocs)], len(o.Fns))
	for _, f := range o.Fns[:cap(o.Fns)] {
		g := f.Fn
		text += fmt.Sprintf("\n%q %d %d %v %d %v %d %+v", f.Name, g.Sig.Result, len(g.Sig.Params), g.Sig.Params[:cap(g.Sig.Params)],
			len(g.Locals), g.Locals[:cap(g.Locals)], len(g.Code), g.Code[:cap(g.Code)])
	}
	return text
}
