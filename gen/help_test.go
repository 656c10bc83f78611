package gen_test

import (
	"fmt"
	"reflect"
	"slices"
	"strings"
	"testing"

	"foundry/api"
	"foundry/code"
	"foundry/gen"
	"foundry/object"
	"foundry/parse"
	"foundry/tree"
)

// is fails unless got is what it has to be.
func is[T comparable](t *testing.T, what string, got, want T) {
	t.Helper()
	if got != want {
		t.Errorf("%s: %v, not %v", what, got, want)
	}
}

// module: of a text; of one that does not begin with its own head the module m.
func module(t *testing.T, text string) api.Module {
	t.Helper()
	if !strings.HasPrefix(text, "module ") {
		text = "module m; " + text
	}
	m, at, code := parse.Parse(text)
	if code != api.OK {
		t.Fatalf("%q: %v at %d", text, code, at)
	}
	return m
}

func num(n int64) api.Value {
	return api.Value{Type: api.TInt, Bits: uint64(n)}
}

func float(bits uint64) api.Value {
	return api.Value{Type: api.TFloat, Bits: bits}
}

func truth(bits uint64) api.Value {
	return api.Value{Type: api.TBool, Bits: bits}
}

func showing(name string, items ...api.Item) api.Iface {
	return api.Iface{Name: name, Items: items}
}

func constant(name string, v api.Value) api.Item {
	return api.Item{Kind: api.DConst, Name: name, Type: v.Type, Bits: v.Bits}
}

func fn(name string, result int, params ...int) api.Item {
	return api.Item{Kind: api.DFn, Name: name, Type: result, Params: params}
}

const (
	half        = 0x3fe0000000000000
	oneAndAHalf = 0x3ff8000000000000
)

// kAndJ: two interfaces that share names, with each other and with the module of outerText.
func kAndJ() []api.Iface {
	k := showing("k", constant("B", truth(1)), constant("C", num(30)), constant("F", float(oneAndAHalf)), constant("Y", num(7)),
		fn("g", api.TBool, api.TInt), fn("h", api.TNone), fn("n", api.TInt), fn("two", api.TFloat, api.TFloat, api.TBool))
	j := showing("j", constant("Y", float(half)), fn("g", api.TNone, api.TFloat), fn("num", api.TFloat))
	return []api.Iface{k, j}
}

// outerText: declarations of each kind.
const outerText = `import k; import j;
const C: int = 3; const D: float = 2.5; const T: bool = true; const N: int = -C - 1;
var v: int = 1; var w: float = 0.5; var q: bool = false;
fn none() { } fn one(a: int) { } fn two(a: int, b: float): bool { return true; } fn num(): int { return 1; }
`

// inF: the module with outerText and a function f, which has a parameter of each type.
func inF(t *testing.T, result, body string) api.Module {
	t.Helper()
	return module(t, outerText+"fn f(p: int, r: float, t: bool)"+result+" {"+body+"}")
}

// listing: a function of an object as the chapter tells it: its instructions with a semicolon between two; behind an open place what belongs there.
func listing(o object.Object, name string) string {
	number := slices.IndexFunc(o.Fns, func(f object.Fn) bool { return f.Name == name })
	if number < 0 {
		return "no function"
	}
	var l []string
	for at, i := range o.Fns[number].Fn.Code {
		text := code.Text(i)
		for _, r := range o.Relocs {
			if r.Fn == number && r.At == at {
				text += " @" + r.Mod + "." + r.Name
			}
		}
		l = append(l, text)
	}
	return strings.Join(l, "; ")
}

// objectOf: the object of a module that is right.
func objectOf(t *testing.T, m api.Module, l ...api.Iface) object.Object {
	t.Helper()
	o, at, code := gen.Gen(m, l)
	if at != 0 || code != api.OK {
		t.Fatalf("%s: %v at %d", text(m), code, at)
	}
	return o
}

// text: for a human, where something is wrong.
func text(m api.Module) string {
	s, _ := tree.Print(m)
	if len(s) > 3000 {
		s = s[:3000] + ".."
	}
	return s
}

// bodyCase: a body of f, and the code that f has of it.
type bodyCase struct{ body, want string }

// eachBody holds the cases against Gen, each in a function that has that result.
func eachBody(t *testing.T, result string, cases []bodyCase) {
	t.Helper()
	for _, c := range cases {
		m := inF(t, result, c.body)
		is(t, c.body, listing(objectOf(t, m, kAndJ()...), "f"), c.want)
		l, e := gen.Code(m, kAndJ(), "f")
		is(t, c.body+" by Code", opsText(l)+fmt.Sprint(" ", int(e)), opsText(objectFn(objectOf(t, m, kAndJ()...), "f").Fn.Code)+" 0")
	}
}

func opsText(l []code.Ins) string {
	return fmt.Sprintf("%d %+v", len(l), l)
}

func objectFn(o object.Object, name string) object.Fn {
	for _, f := range o.Fns {
		if f.Name == name {
			return f
		}
	}
	return object.Fn{}
}

// key: all that an object has, lists without an element being alike; unlike objects have unlike keys.
func key(o object.Object) string {
	text := fmt.Sprintf("object %q %d %d %d", o.Module, len(o.Vars), len(o.Fns), len(o.Relocs))
	for _, v := range o.Vars {
		text += fmt.Sprintf("\nvar %q %d %x", v.Name, v.Value.Type, v.Value.Bits)
	}
	for _, f := range o.Fns {
		text += fmt.Sprintf("\nfn %q %v %d %v %s", f.Name, f.Fn.Sig.Params, f.Fn.Sig.Result, f.Fn.Locals, opsText(f.Fn.Code))
	}
	for _, r := range o.Relocs {
		text += fmt.Sprintf("\nreloc %d %d %d %q %q", r.Fn, r.At, r.Kind, r.Mod, r.Name)
	}
	return text
}

func stops(o object.Object, at int, code api.Errno) string {
	return fmt.Sprint(key(o), " ", at, " ", int(code))
}

// generated: all that Gen answers, as one text.
func generated(m api.Module, l ...api.Iface) string {
	return stops(gen.Gen(m, l))
}

// wrong: what generated answers where there is that error at that place.
func wrong(at int, code api.Errno) string {
	return stops(object.Object{}, at, code)
}

// coded: all that Code answers, as one text.
func coded(m api.Module, l []api.Iface, name string) string {
	ins, code := gen.Code(m, l, name)
	return fmt.Sprint(opsText(ins), " ", int(code))
}

func frameKey(p code.Frame, e api.Errno) string {
	text := fmt.Sprint(int(e), " ", len(p.Fns))
	for _, s := range p.Fns {
		text += fmt.Sprint(" ", len(s.Params), s.Params, s.Result)
	}
	return text + fmt.Sprint(" ", len(p.Vars), p.Vars)
}

// framed: all that Frame answers, as one text.
func framed(m api.Module, l ...api.Iface) string {
	return frameKey(gen.Frame(m, l))
}

// refused fails unless each call answers the error, and nothing else but the place that Gen has.
func refused(t *testing.T, what string, m api.Module, l []api.Iface, at int, e api.Errno) {
	t.Helper()
	is(t, what, generated(m, l...), wrong(at, e))
	is(t, what+", Frame", framed(m, l...), frameKey(code.Frame{}, e))
	for _, d := range append([]api.Decl{{Name: "nobody"}}, m.Decls...) {
		is(t, what+", Code of "+d.Name, coded(m, l, d.Name), fmt.Sprint(opsText(nil), " ", int(e)))
	}
}

// closed: the function with each open place closed by the number that its name has in Frame's lists.
func closed(o object.Object, number int, m api.Module, l []api.Iface) code.Fn {
	var fns, vars []string
	for _, d := range m.Decls {
		switch d.Kind {
		case api.DFn:
			fns = append(fns, m.Name+"."+d.Name)
		case api.DVar:
			vars = append(vars, m.Name+"."+d.Name)
		}
	}
	for _, mod := range m.Imports {
		for _, i := range first(l, mod).Items {
			if i.Kind == api.DFn {
				fns = append(fns, mod+"."+i.Name)
			}
		}
	}
	f := o.Fns[number].Fn
	f.Code = slices.Clone(f.Code)
	for _, r := range o.Relocs {
		if r.Fn == number {
			f.Code[r.At].N = slices.Index([][]string{vars, fns}[r.Kind-object.ToVar], r.Mod+"."+r.Name)
		}
	}
	return f
}

// first: the interface of that name.
func first(l []api.Iface, name string) api.Iface {
	for _, f := range l {
		if f.Name == name {
			return f
		}
	}
	return api.Iface{}
}

// isRight fails unless the object is right, and each of its functions is right in its Frame.
func isRight(t *testing.T, what string, m api.Module, l []api.Iface) {
	t.Helper()
	o, at, e := gen.Gen(m, l)
	is(t, what+": Gen", fmt.Sprint(at, int(e)), "0 0")
	is(t, what+": object.Right", object.Right(o), api.OK)
	p, e := gen.Frame(m, l)
	is(t, what+": Frame", e, api.OK)
	for number, f := range o.Fns {
		at, e := code.Verify(closed(o, number, m, l), p)
		if at != 0 || e != api.OK {
			t.Errorf("%s: code.Verify of %s: %v at %d\n%s\n%s", what, f.Name, e, at, object.Text(o), text(m))
		}
	}
}

// lists tells each list in what is handed out, with its spare room, to what is done with it.
func lists(v reflect.Value, do func(reflect.Value)) {
	switch v.Kind() {
	case reflect.Struct:
		for i := range v.NumField() {
			lists(v.Field(i), do)
		}
	case reflect.Slice:
		for i := range v.Len() {
			lists(v.Index(i), do)
		}
		if v.Cap() > 0 {
			do(v)
		}
	}
}

// isNew fails unless each list of the answer has memory of its own, spare room too; and writes all over it.
func isNew[T any](t *testing.T, what string, answer *T) {
	t.Helper()
	seen := map[uintptr]bool{}
	lists(reflect.ValueOf(answer).Elem(), func(l reflect.Value) {
		size := l.Type().Elem().Size()
		for i := range l.Cap() {
			at := l.Pointer() + uintptr(i)*size
			if seen[at] {
				t.Errorf("%s: two lists share memory", what)
			}
			seen[at] = true
		}
	})
	scribble(answer)
}

// scribble writes all over it, spare room too.
func scribble[T any](thing *T) {
	lists(reflect.ValueOf(thing).Elem(), func(l reflect.Value) { l.Slice(0, l.Cap()).Clear() })
}

// wholeKey: all that is in there, what stands in spare room too.
func wholeKey(v reflect.Value) string {
	switch v.Kind() {
	case reflect.Struct:
		key := "{"
		for i := range v.NumField() {
			key += wholeKey(v.Field(i)) + ","
		}
		return key + "}"
	case reflect.Slice:
		key := fmt.Sprint(v.Len(), "[")
		full := v.Slice(0, v.Cap())
		for i := range full.Len() {
			key += wholeKey(full.Index(i)) + ";"
		}
		return key + "]"
	}
	return fmt.Sprintf("%#v", v.Interface())
}

// spared: the list by itself, with something in its spare room.
func spared[T any](l []T, spare T) []T {
	c := append(make([]T, 0, len(l)+2), l...)
	return append(c, spare, spare)[:len(l)]
}

// times: a list of n of them.
func times[T any](n int, x T) []T {
	return slices.Repeat([]T{x}, n)
}
