package check_test

import (
	"fmt"
	"reflect"
	"slices"
	"strings"
	"testing"

	"foundry/api"
	"foundry/check"
	"foundry/fold"
	"foundry/parse"
)

// is fails unless got is what it has to be.
func is[T comparable](t *testing.T, what string, got, want T) {
	t.Helper()
	if got != want {
		t.Errorf("%s: %v, not %v", what, got, want)
	}
}

// module: the module m of what stands behind its head.
func module(t *testing.T, text string) api.Module {
	t.Helper()
	m, at, code := parse.Parse("module m; " + text)
	if code != api.OK {
		t.Fatalf("%q: %v at %d", text, code, at)
	}
	return m
}

// expr: the expression of a text.
func expr(t *testing.T, text string) api.Expr {
	t.Helper()
	e, at, code := parse.Expr(text)
	if code != api.OK {
		t.Fatalf("%q: %v at %d", text, code, at)
	}
	return e
}

// block: the statements of a text.
func block(t *testing.T, text string) []api.Stmt {
	t.Helper()
	return module(t, "fn f() {"+text+"}").Decls[0].Body
}

func constant(name string, typ int, bits uint64) api.Item {
	return api.Item{Kind: api.DConst, Name: name, Type: typ, Bits: bits}
}

func num(name string, n int64) api.Item {
	return constant(name, api.TInt, uint64(n))
}

func fn(name string, result int, params ...int) api.Item {
	return api.Item{Kind: api.DFn, Name: name, Type: result, Params: params}
}

// showing: an interface.
func showing(name string, items ...api.Item) api.Iface {
	return api.Iface{Name: name, Items: items}
}

const (
	half        = 0x3fe0000000000000 // the float 0.5
	oneAndAHalf = 0x3ff8000000000000
	twoAndAHalf = 0x4004000000000000
	signBit     = 1 << 63
)

// kAndJ: the interfaces that the tests' modules import.
func kAndJ() []api.Iface {
	return []api.Iface{
		showing("k", constant("B", api.TBool, 1), constant("F", api.TFloat, oneAndAHalf), num("Y", 7),
			fn("four", api.TInt, api.TInt, api.TFloat, api.TBool, api.TInt), fn("g", api.TBool, api.TInt), fn("h", api.TNone), fn("n", api.TInt), fn("r", api.TFloat, api.TFloat)),
		showing("j", num("Only", 3), constant("Y", api.TFloat, half), fn("g", api.TInt)),
	}
}

// outerText: declarations of each kind; what stands behind them has the number outerCount.
const outerText = `import k; import j;
const C: int = 3; const D: float = 2.5; const T: bool = true;
var v: int = 1; var w: float = 0.5; var q: bool = false;
fn none() { } fn one(a: int) { } fn two(a: int, b: float): bool { return true; } fn num(): int { return 1; } fn real(): float { return w; }
`

const outerCount = 11

// inF: the module with outerText and a function f, which has a parameter of each type, and nothing but what is asked is wrong with it.
func inF(t *testing.T, result, body string) api.Module {
	t.Helper()
	return module(t, outerText+"fn f(p: int, r: float, t: bool)"+result+" {"+body+"}")
}

// inFKey: what Check tells of inF, of a function with these types of slots behind the parameters'.
func inFKey(slots ...int) string {
	return fmt.Sprint(append([]int{api.TInt, api.TFloat, api.TBool}, slots...), 0, int(api.OK))
}

// slotsIn: what Check tells of inF: the slots of f, the place, the error.
func slotsIn(t *testing.T, result, body string) string {
	t.Helper()
	info, at, code := check.Check(inF(t, result, body), kAndJ())
	if len(info.Slots) == 0 {
		return stops(info, at, code)
	}
	return fmt.Sprint(info.Slots[len(info.Slots)-1], at, int(code))
}

func stops(info check.Info, at int, code api.Errno) string {
	return fmt.Sprint(infoKey(info), " ", at, " ", int(code))
}

// fails: what slotsIn answers where f has that error.
func fails(code api.Errno) string {
	return stops(check.Info{}, outerCount, code)
}

// bodyCase: a body of f, and what is told of it: an error, or the slots behind the parameters'.
type bodyCase struct {
	body  string
	code  api.Errno
	slots []int
}

// eachBody holds the cases against Check, each in a function that has that result.
func eachBody(t *testing.T, result string, cases []bodyCase) {
	t.Helper()
	for _, c := range cases {
		want := inFKey(c.slots...)
		if c.code != api.OK {
			want = fails(c.code)
		}
		is(t, c.body, slotsIn(t, result, c.body), want)
	}
}

func itemKey(i api.Item) string {
	return fmt.Sprintf("%d %q %d %x %d", i.Kind, i.Name, i.Type, i.Bits, append([]int{}, i.Params...))
}

func ifaceKey(f api.Iface) string {
	key := fmt.Sprintf("%q %d", f.Name, len(f.Items))
	for _, i := range f.Items {
		key += "\n" + itemKey(i)
	}
	return key
}

func constsKey(l []fold.Const) string {
	key := fmt.Sprint(len(l))
	for _, c := range l {
		key += fmt.Sprintf("\n%q %q %d %x", c.Mod, c.Name, c.Value.Type, c.Value.Bits)
	}
	return key
}

// slotsKey: an empty list is like none.
func slotsKey(l [][]int) string {
	return fmt.Sprint(append([][]int{}, l...))
}

// infoKey: all that an Info has; unlike ones have unlike keys.
func infoKey(info check.Info) string {
	return strings.Join([]string{ifaceKey(info.Iface), constsKey(info.Consts), constsKey(info.Vars), slotsKey(info.Slots)}, "\n")
}

// checked: all that Check answers, as one text.
func checked(m api.Module, l ...api.Iface) string {
	return stops(check.Check(m, l))
}

// wrong: what checked answers where there is that error at that place.
func wrong(at int, code api.Errno) string {
	return stops(check.Info{}, at, code)
}

// codeOf: the error alone.
func codeOf(m api.Module, l ...api.Iface) api.Errno {
	_, _, code := check.Check(m, l)
	return code
}

// typed: all that Type answers, as one text.
func typed(m api.Module, l []api.Iface, e api.Expr) string {
	typ, code := check.Type(m, l, e)
	return fmt.Sprint(typ, " ", int(code))
}

func typedText(typ int, code api.Errno) string {
	return fmt.Sprint(typ, " ", int(code))
}

// times: a list of n of them.
func times[T any](n int, x T) []T {
	return slices.Repeat([]T{x}, n)
}

// lists tells each list in what is handed out, with its spare room, to what is done with it.
func lists(v reflect.Value, do func(reflect.Value)) {
	switch v.Kind() {
	case reflect.Struct:
		for i := range v.NumField() {
			lists(v.Field(i), do)
		}
	case reflect.Slice:
		for i := range v.Len() {
			lists(v.Index(i), do)
		}
		if v.Cap() > 0 {
			do(v)
		}
	}
}

// isNew fails unless each list of the Info has memory of its own; and writes all over it, spare room too.
func isNew(t *testing.T, what string, info *check.Info) {
	t.Helper()
	seen := map[uintptr]bool{}
	lists(reflect.ValueOf(info).Elem(), func(l reflect.Value) {
		size := l.Type().Elem().Size()
		for i := range l.Cap() {
			at := l.Pointer() + uintptr(i)*size
			if seen[at] {
				t.Errorf("%s: two lists share memory", what)
			}
			seen[at] = true
		}
		l.Slice(0, l.Cap()).Clear()
	})
}

// spared: the list by itself, with something in its spare room.
func spared[T any](l []T, spare T) []T {
	c := append(make([]T, 0, len(l)+2), l...)
	return append(c, spare, spare)[:len(l)]
}

func roomyExprs(l []api.Expr) []api.Expr {
	l = spared(l, api.Expr{Kind: api.EName, Name: "spare"})
	for at := range l {
		l[at].Kids = roomyExprs(l[at].Kids)
	}
	return l
}

func roomyStmts(l []api.Stmt) []api.Stmt {
	l = spared(l, api.Stmt{Kind: api.SLet, Name: "spare"})
	for at := range l {
		s := &l[at]
		s.E, s.Body, s.Else = roomyExprs(s.E), roomyStmts(s.Body), roomyStmts(s.Else)
	}
	return l
}

// roomyModule: the module in memory of its own, with spare room in each list.
func roomyModule(m api.Module) api.Module {
	m.Imports = spared(m.Imports, "spare")
	m.Decls = spared(m.Decls, api.Decl{Kind: api.DConst, Export: true, Name: "spare", Type: api.TInt})
	for at := range m.Decls {
		d := &m.Decls[at]
		d.Params, d.E, d.Body = spared(d.Params, api.Param{Name: "spare", Type: 77}), roomyExprs(d.E), roomyStmts(d.Body)
	}
	return m
}

func roomyIfaces(l []api.Iface) []api.Iface {
	l = spared(l, showing("spare", num("Y", 7)))
	for at := range l {
		items := spared(l[at].Items, num("spare", 7))
		for i := range items {
			items[i].Params = spared(items[i].Params, 77)
		}
		l[at].Items = items
	}
	return l
}

// wholeKey: all that is in there, what stands in spare room too.
func wholeKey(v reflect.Value) string {
	switch v.Kind() {
	case reflect.Struct:
		key := "{"
		for i := range v.NumField() {
			key += wholeKey(v.Field(i)) + ","
		}
		return key + "}"
	case reflect.Slice:
		key := fmt.Sprint(v.Len(), "[")
		full := v.Slice(0, v.Cap())
		for i := range full.Len() {
			key += wholeKey(full.Index(i)) + ";"
		}
		return key + "]"
	}
	return fmt.Sprintf("%#v", v.Interface())
}

// scribble writes all over what was handed in.
func scribble[T any](thing *T) {
	lists(reflect.ValueOf(thing).Elem(), func(l reflect.Value) { l.Slice(0, l.Cap()).Clear() })
}

func own(name string, typ int, bits uint64) fold.Const {
	return far("", name, typ, bits)
}

func far(mod, name string, typ int, bits uint64) fold.Const {
	return fold.Const{Mod: mod, Name: name, Value: api.Value{Type: typ, Bits: bits}}
}
