package link_test

import (
	"fmt"
	"math"
	"slices"
	"strconv"
	"strings"
	"testing"

	"foundry/api"
	"foundry/code"
	"foundry/floats"
	"foundry/image"
	"foundry/link"
	"foundry/object"
)

// is fails unless got is what it has to be.
func is[T comparable](t *testing.T, what string, got, want T) {
	t.Helper()
	if got != want {
		t.Errorf("%s: %v, not %v", what, got, want)
	}
}

// isText fails unless the texts, that may be long, are alike.
func isText(t *testing.T, what, got, want string) {
	t.Helper()
	if got != want {
		t.Errorf("%s: %s, not %s", short(what), short(got), short(want))
	}
}

// short: a text as it stands in a fault's report.
func short(text string) string {
	if len(text) <= 800 {
		return text
	}
	return text[:800] + ".."
}

func num(n int64) api.Value {
	return api.Value{Type: api.TInt, Bits: uint64(n)}
}

func float(f float64) api.Value {
	return api.Value{Type: api.TFloat, Bits: math.Float64bits(f)}
}

func truth(bits uint64) api.Value {
	return api.Value{Type: api.TBool, Bits: bits}
}

// long: a text of n letters.
func long(n int) string {
	return strings.Repeat("a", n)
}

func times[T any](n int, x T) []T {
	return slices.Repeat([]T{x}, n)
}

// opWords: the instructions by their numbers, written down once more.
func opWords() []string {
	return []string{1: "push", 2: "get", 3: "put", 4: "load", 5: "store", 6: "un", 7: "bin", 8: "jump", 9: "unless", 10: "call",
		11: "return", 12: "show", 13: "fail", 14: "input", 15: "try", 16: "untry", 17: "drop"}
}

// kindOf: of an open place's Op what belongs there; 0 of another one.
func kindOf(op int) int {
	return []int{4: 1, 5: 1, 10: 2, 17: 0}[op]
}

// asm: the instructions of a text, with a semicolon between two, and the Relocs of its open places, such as `load @m.v`. Of push 1 is an int, true a bool, 1.5 a float; the other operands are numbers.
func asm(text string) ([]code.Ins, []object.Reloc) {
	var l []code.Ins
	var relocs []object.Reloc
	for line := range strings.SplitSeq(text, ";") {
		words := strings.Fields(line)
		if len(words) == 0 {
			continue
		}
		i := code.Ins{Op: slices.Index(opWords(), words[0])}
		if i.Op < 1 {
			panic("no instruction: " + line)
		}
		if len(words) > 1 {
			if far, open := strings.CutPrefix(words[1], "@"); open {
				mod, name, _ := strings.Cut(far, ".")
				relocs = append(relocs, object.Reloc{At: len(l), Kind: kindOf(i.Op), Mod: mod, Name: name})
			} else {
				i = withOperand(i, words[1])
			}
		}
		l = append(l, i)
	}
	return l, relocs
}

func withOperand(i code.Ins, word string) code.Ins {
	if i.Op == 1 {
		i.V = asmValue(word)
		return i
	}
	n, err := strconv.Atoi(word)
	if err != nil {
		panic("no operand: " + word)
	}
	i.N = n
	return i
}

func asmValue(word string) api.Value {
	switch word {
	case "false":
		return truth(0)
	case "true":
		return truth(1)
	}
	if n, err := strconv.ParseInt(word, 10, 64); err == nil {
		return num(n)
	}
	f, err := strconv.ParseFloat(word, 64)
	if err != nil {
		panic("no value: " + word)
	}
	return float(f)
}

// typesOf: types by their first letters; n is TNone.
func typesOf(letters string) []int {
	var l []int
	for _, r := range letters {
		l = append(l, strings.IndexRune("nifb", r))
	}
	return l
}

// fn: a function out of its signature, its locals behind the parameters, its code, all of whose places are closed: "if:b" takes an int and a float and has a bool as its result.
func fn(signature, locals, text string) code.Fn {
	params, result, _ := strings.Cut(signature, ":")
	l, relocs := asm(text)
	if len(relocs) > 0 {
		panic("an open place: " + text)
	}
	f := code.Fn{Sig: code.Sig{Params: typesOf(params)}, Locals: typesOf(params + locals), Code: l}
	if result != "" {
		f.Sig.Result = typesOf(result)[0]
	}
	return f
}

// part: what is put into an object.
type part func(o *object.Object)

// obj: an object of a module.
func obj(module string, parts ...part) object.Object {
	o := object.Object{Module: module}
	for _, put := range parts {
		put(&o)
	}
	return o
}

func variable(name string, v api.Value) part {
	return func(o *object.Object) {
		o.Vars = append(o.Vars, object.Var{Name: name, Value: v})
	}
}

// function: one with the code of a text, and the Relocs of its open places.
func function(name, signature, locals, text string) part {
	f := fn(signature, locals, "")
	l, relocs := asm(text)
	f.Code = l
	return func(o *object.Object) {
		for _, r := range relocs {
			r.Fn = len(o.Fns)
			o.Relocs = append(o.Relocs, r)
		}
		o.Fns = append(o.Fns, object.Fn{Name: name, Fn: f})
	}
}

// coded: a function as it is.
func coded(name string, f code.Fn) part {
	return func(o *object.Object) {
		o.Fns = append(o.Fns, object.Fn{Name: name, Fn: f})
	}
}

// mainOf: the object of main, with this code.
func mainOf(text string, parts ...part) object.Object {
	return obj("main", append([]part{function("main", ":i", "", text)}, parts...)...)
}

// five: the object of main that does least.
func five() object.Object {
	return mainOf("push 5; return")
}

// all: a list of objects.
func all(l ...object.Object) []object.Object {
	return l
}

// orders: the list in each order.
func orders(l []object.Object) [][]object.Object {
	if len(l) == 0 {
		return [][]object.Object{nil}
	}
	var all [][]object.Object
	for at := range l {
		rest := slices.Delete(slices.Clone(l), at, at+1)
		for _, order := range orders(rest) {
			all = append(all, append([]object.Object{l[at]}, order...))
		}
	}
	return all
}

// rightValues: values of each type, the edges too, no two alike.
func rightValues() []api.Value {
	l := []api.Value{truth(0), truth(1), {Type: api.TFloat, Bits: floats.NaN}}
	for _, n := range []int64{0, 1, 2, -1, 255, 0x0102030405060708, math.MinInt64, math.MaxInt64} {
		l = append(l, num(n))
	}
	for _, f := range []float64{0, math.Copysign(0, -1), 1, 1.5, math.MaxFloat64, math.SmallestNonzeroFloat64, math.Inf(1), math.Inf(-1)} {
		l = append(l, float(f))
	}
	return l
}

// key: all that an image has, lists without an element being alike; unlike images have unlike keys.
func key(i image.Image) string {
	var text strings.Builder
	fmt.Fprintf(&text, "image %d %d %d", len(i.Vars), len(i.Fns), i.Main)
	for _, v := range i.Vars {
		fmt.Fprintf(&text, "\nvar %d %x", v.Type, v.Bits)
	}
	for _, f := range i.Fns {
		fmt.Fprintf(&text, "\nfn %v %d %v %+v", f.Sig.Params, f.Sig.Result, f.Locals, f.Code)
	}
	return text.String()
}

func objectKey(o object.Object) string {
	text := fmt.Sprintf("object %q %d %d %d", o.Module, len(o.Vars), len(o.Fns), len(o.Relocs))
	for _, v := range o.Vars {
		text += fmt.Sprintf("\nvar %q %d %x", v.Name, v.Value.Type, v.Value.Bits)
	}
	for _, f := range o.Fns {
		text += fmt.Sprintf("\nfn %q %v %d %v %+v", f.Name, f.Fn.Sig.Params, f.Fn.Sig.Result, f.Fn.Locals, f.Fn.Code)
	}
	for _, r := range o.Relocs {
		text += fmt.Sprintf("\nreloc %d %d %d %q %q", r.Fn, r.At, r.Kind, r.Mod, r.Name)
	}
	return text
}

// names: of the objects' modules, as they come.
func names(l []object.Object) string {
	var text []string
	for _, o := range l {
		text = append(text, o.Module)
	}
	return strings.Join(text, " ")
}

func problemKey(p api.Problem) string {
	return fmt.Sprintf("%d %q %d", int(p.Code), p.Module, p.Place)
}

func imageTold(i image.Image, p api.Problem) string {
	return key(i) + " " + problemKey(p)
}

func bytesTold(b []byte, p api.Problem) string {
	return fmt.Sprintf("%x %s", b, problemKey(p))
}

func symbolsTold(l []link.Symbol) string {
	var text []string
	for _, s := range l {
		text = append(text, fmt.Sprintf("%s.%s %d %d", s.Mod, s.Name, s.Kind, s.N))
	}
	return fmt.Sprintf("%d %q", len(l), text)
}

// linked, packed: all that Link, Bytes answer, as one text.
func linked(l []object.Object) string {
	return imageTold(link.Link(l))
}

func packed(l []object.Object) string {
	return bytesTold(link.Bytes(l))
}

// isImage fails unless that is the image of the objects, with its bytes.
func isImage(t *testing.T, what string, l []object.Object, want image.Image) {
	t.Helper()
	isText(t, what+": Link of "+names(l), linked(l), imageTold(want, api.Problem{}))
	b, e := image.Pack(want)
	is(t, what+": image.Pack", e, api.OK)
	isText(t, what+": Bytes of "+names(l), packed(l), bytesTold(b, api.Problem{}))
}

// isProblem fails unless that is the problem of the objects, and nothing is answered beside it.
func isProblem(t *testing.T, what string, l []object.Object, code api.Errno, module string, place int) {
	t.Helper()
	p := api.Problem{Code: code, Module: module, Place: place}
	isText(t, what+": Link of "+names(l), linked(l), imageTold(image.Image{}, p))
	isText(t, what+": Bytes of "+names(l), packed(l), bytesTold(nil, p))
}

// spared: the list by itself, with something in its spare room.
func spared[T any](l []T, spare T) []T {
	c := append(make([]T, 0, len(l)+2), l...)
	return append(c, spare, spare)[:len(l)]
}

// roomy: the objects in memory of their own, with spare room in each list.
func roomy(l []object.Object) []object.Object {
	l = spared(l, object.Object{Module: "spare"})
	for at := range l {
		l[at] = roomyObject(l[at])
	}
	return l
}

func roomyObject(o object.Object) object.Object {
	o.Vars = spared(o.Vars, object.Var{Name: "spare", Value: num(77)})
	o.Fns = spared(o.Fns, object.Fn{Name: "spare"})
	o.Relocs = spared(o.Relocs, object.Reloc{Fn: 77, Name: "spare"})
	for at := range o.Fns {
		f := &o.Fns[at].Fn
		f.Sig.Params, f.Locals, f.Code = spared(f.Sig.Params, 77), spared(f.Locals, 77), spared(f.Code, code.Ins{Op: 77})
	}
	return o
}

// whole: all that the objects have, what stands in spare room too.
func whole(l []object.Object) string {
	text := fmt.Sprint(len(l))
	for _, o := range l[:cap(l)] {
		text += fmt.Sprintf("\n%q %d %+v %d %+v %d", o.Module, len(o.Vars), o.Vars[:cap(o.Vars)], len(o.Relocs), o.Relocs[:cap(o.Relocs)], len(o.Fns))
		for _, f := range o.Fns[:cap(o.Fns)] {
			g := f.Fn
			text += fmt.Sprintf("\n%q %d %d %v %d %v %d %+v", f.Name, g.Sig.Result, len(g.Sig.Params), g.Sig.Params[:cap(g.Sig.Params)],
				len(g.Locals), g.Locals[:cap(g.Locals)], len(g.Code), g.Code[:cap(g.Code)])
		}
	}
	return text
}

// imageOf: the model's image of objects that have one.
func imageOf(t *testing.T, l ...object.Object) image.Image {
	t.Helper()
	i, p := modelLink(l)
	if p.Code != api.OK {
		t.Fatalf("%s: %v", names(l), p)
	}
	return i
}
