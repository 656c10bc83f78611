package gen_test

import (
	"fmt"
	"strings"
	"testing"

	"foundry/api"
	"foundry/check"
	"foundry/code"
	"foundry/object"
)

// The chapter's examples.
func TestExamples(t *testing.T) {
	for _, c := range []struct{ text, want string }{
		{"fn f(a: int): int { return a + C * v; }", "get 0; push 5; load 0 @m.v; bin *; bin +; return"},
		{"fn f() { while v > 0 { v = v - 1; } }", "load 0 @m.v; push 0; bin >; unless 9; load 0 @m.v; push 1; bin -; store 0 @m.v; jump 0; return"},
		{"fn f() { try { f(); } catch n { show n; } }", "try 4; call 0 @m.f; untry; jump 7; put 0; get 0; show; return"},
		{"fn f(a: bool): bool { return a && !a; }", "get 0; unless 5; get 0; un not; jump 6; push false; return"},
		{"fn f(): int { if true { return 1; } else { fail 2; } }", "push true; unless 5; push 1; return; jump 7; push 2; fail"},
	} {
		m := module(t, "var v: int = 3; const C: int = 5; "+c.text)
		is(t, c.text, listing(objectOf(t, m), "f"), c.want)
		isRight(t, c.text, m, nil)
	}
}

// F16.1: the object, each part of it.

// objectText: declarations of each kind between one another.
const objectText = `import k; import j;
fn b(x: bool, y: float): float { let z = 1; v = z; if x { return w * k.F; } return k.two(y, x); }
const A: int = 1 + k.Y; var w: float = j.Y; export fn a() { try { b(true, w); } catch e { e = v; } }
var v: int = -A; export const Z: bool = A > 3; fn c(): int { return A; } var u: bool = !Z;`

func TestObject(t *testing.T) {
	o := objectOf(t, module(t, objectText), kAndJ()...)
	is(t, "Module", o.Module, "m")
	is(t, "Vars", fmt.Sprint(o.Vars), fmt.Sprint([]object.Var{{Name: "w", Value: float(half)}, {Name: "v", Value: num(-8)}, {Name: "u", Value: truth(0)}}))
	is(t, "how many Fns", len(o.Fns), 3)
	for at, want := range []struct {
		name   string
		sig    code.Sig
		locals []int
		list   string
	}{
		{"b", code.Sig{Params: []int{3, 2}, Result: 2}, []int{3, 2, 1}, "push 1; put 2; get 2; store 0 @m.v; get 0; unless 10; load 0 @m.w; push 0x1.8p+0; bin *; return; get 1; get 0; call 0 @k.two; return"},
		{"a", code.Sig{}, []int{1}, "try 7; push true; load 0 @m.w; call 0 @m.b; drop; untry; jump 10; put 0; load 0 @m.v; put 0; return"},
		{"c", code.Sig{Result: 1}, nil, "push 8; return"},
	} {
		f := o.Fns[at]
		is(t, want.name, fmt.Sprint(f.Name, f.Fn.Sig, f.Fn.Locals), fmt.Sprint(want.name, want.sig, want.locals))
		is(t, want.name+"'s code", listing(o, want.name), want.list)
	}
	is(t, "Relocs", fmt.Sprint(o.Relocs), fmt.Sprint([]object.Reloc{
		{Fn: 0, At: 3, Kind: object.ToVar, Mod: "m", Name: "v"},
		{Fn: 0, At: 6, Kind: object.ToVar, Mod: "m", Name: "w"},
		{Fn: 0, At: 12, Kind: object.ToFn, Mod: "k", Name: "two"},
		{Fn: 1, At: 2, Kind: object.ToVar, Mod: "m", Name: "w"},
		{Fn: 1, At: 3, Kind: object.ToFn, Mod: "m", Name: "b"},
		{Fn: 1, At: 8, Kind: object.ToVar, Mod: "m", Name: "v"},
	}))
	isRight(t, "the object", module(t, objectText), kAndJ())
}

// What is given by its number in an instruction, and what is not given: its N is 0, its value none.
func TestInstructionsHaveNothingElse(t *testing.T) {
	o := objectOf(t, module(t, objectText), kAndJ()...)
	is(t, "b's code", opsText(o.Fns[0].Fn.Code), opsText([]code.Ins{
		{Op: 1, V: num(1)}, {Op: 3, N: 2}, {Op: 2, N: 2}, {Op: 5}, {Op: 2, N: 0}, {Op: 9, N: 10}, {Op: 4}, {Op: 1, V: float(oneAndAHalf)},
		{Op: 7, N: api.BMul}, {Op: 11}, {Op: 2, N: 1}, {Op: 2, N: 0}, {Op: 10}, {Op: 11},
	}))
	o = objectOf(t, module(t, "fn f(a: bool) { try { show !a && input > 1; } catch e { fail e; } while a || a { g(); } } fn g(): float { return 1.5; }"))
	is(t, "f's code", opsText(o.Fns[0].Fn.Code), opsText([]code.Ins{
		{Op: 15, N: 12}, {Op: 2, N: 0}, {Op: 6, N: api.UNot}, {Op: 9, N: 8}, {Op: 14}, {Op: 1, V: num(1)}, {Op: 7, N: api.BGt}, {Op: 8, N: 9}, {Op: 1, V: truth(0)},
		{Op: 12}, {Op: 16}, {Op: 8, N: 15}, {Op: 3, N: 1}, {Op: 2, N: 1}, {Op: 13},
		{Op: 2, N: 0}, {Op: 9, N: 19}, {Op: 1, V: truth(1)}, {Op: 8, N: 20}, {Op: 2, N: 0}, {Op: 9, N: 24}, {Op: 10}, {Op: 17}, {Op: 8, N: 15}, {Op: 11},
	}))
}

func TestObjectOfAlmostNothing(t *testing.T) {
	is(t, "nothing", generated(module(t, "")), stops(object.Object{Module: "m"}, 0, api.OK))
	is(t, "an import", generated(module(t, "import k;"), kAndJ()...), stops(object.Object{Module: "m"}, 0, api.OK))
	is(t, "a constant", generated(module(t, "export const C: int = 1;")), stops(object.Object{Module: "m"}, 0, api.OK))
	is(t, "a variable", generated(module(t, "module x; var v: int = 1;")),
		stops(object.Object{Module: "x", Vars: []object.Var{{Name: "v", Value: num(1)}}}, 0, api.OK))
	is(t, "a function", generated(module(t, "fn f() { }")),
		stops(object.Object{Module: "m", Fns: []object.Fn{{Name: "f", Fn: code.Fn{Code: []code.Ins{{Op: 11}}}}}}, 0, api.OK))
}

// Values of variables at first, the edges too.
func TestFirstValues(t *testing.T) {
	for _, c := range []struct {
		typ, text string
		want      api.Value
	}{
		{"int", "0", num(0)},
		{"int", "-9223372036854775807 - 1", num(-1 << 63)},
		{"int", "9223372036854775807", num(1<<63 - 1)},
		{"int", "C * 2", num(10)},
		{"int", "k.Y", num(7)},
		{"float", "-0.0", float(1 << 63)},
		{"float", "0.0 / 0.0", float(0x7ff8000000000001)},
		{"float", "-inf", float(0xfff0000000000000)},
		{"bool", "false", truth(0)},
		{"bool", "k.B && C == 5", truth(1)},
	} {
		m := module(t, "import k; const C: int = 5; var v: "+c.typ+" = "+c.text+"; const X: "+c.typ+" = "+c.text+"; fn f() { show v; show X; }")
		o := objectOf(t, m, kAndJ()...)
		is(t, c.text, fmt.Sprint(o.Vars), fmt.Sprint([]object.Var{{Name: "v", Value: c.want}}))
		// A constant of the same expression is pushed as that very value.
		is(t, c.text+" as a constant", opsText(o.Fns[0].Fn.Code), opsText([]code.Ins{{Op: 4}, {Op: 12}, {Op: 1, V: c.want}, {Op: 12}, {Op: 11}}))
	}
}

// F16.1: check.Check's error and its place, of modules that it does not take.
func TestErrorsOfCheck(t *testing.T) {
	for _, c := range []struct {
		text string
		at   int
		code api.Errno
	}{
		{"import m;", 0, api.ErrTwice},
		{"import k; import k;", 0, api.ErrTwice},
		{"import nobody; fn f() { show x; }", 0, api.ErrImport},
		{"import k; fn f() { } const k: int = 1;", 1, api.ErrTwice},
		{"const A: int = 1; fn A() { }", 1, api.ErrTwice},
		{"const A: int = B; const B: int = 1;", 0, api.ErrUnknown},
		{"fn f() { } var v: int = 1 / 0;", 1, api.ErrZero},
		{"fn f() { } var v: int = 9223372036854775807 + 1;", 1, api.ErrRange},
		{"var v: int = 1.5;", 0, api.ErrType},
		{"var v: int = input;", 0, api.ErrConst},
		{"fn f() { } fn g(a: int, a: int) { }", 1, api.ErrTwice},
		{"fn f() { } fn g() { } fn h() { x = 1; }", 2, api.ErrUnknown},
		{"fn f() { } fn g() { f = 1; }", 1, api.ErrType},
		{"fn f() { show k.Y; }", 0, api.ErrUnknown},
		{"import k; fn f() { } fn g() { show k.g; }", 1, api.ErrType},
		{"import k; fn f() { } fn g() { k.g(); }", 1, api.ErrCount},
		{"import k; fn f() { } fn g() { k.g(1.5); }", 1, api.ErrType},
		{"fn f() { show f(); }", 0, api.ErrType},
		{"const A: int = 1; fn f(): int { if true { return 1; } }", 1, api.ErrReturn},
		{"fn f() { return 1; }", 0, api.ErrType},
		{"fn f() { " + letsOf(api.MaxLocals+1) + "}", 0, api.ErrBig},
	} {
		refused(t, c.text, module(t, c.text), kAndJ(), c.at, c.code)
	}
}

// letsOf: so many lets of ints.
func letsOf(n int) string {
	var l strings.Builder
	for at := range n {
		fmt.Fprint(&l, "let x", at, " = ", at, "; ")
	}
	return l.String()
}

// F16.1: a module that is not right by tree.Right, whatever else is wrong with it.
func TestErrorsOfModulesThatAreNotRight(t *testing.T) {
	deep := api.Expr{Kind: api.EInput}
	for range api.MaxDepth + 1 {
		deep = api.Expr{Kind: api.EUn, Op: api.UNeg, Kids: []api.Expr{deep}}
	}
	for n, c := range []struct {
		code  api.Errno
		spoil func(m *api.Module)
	}{
		{api.ErrName, func(m *api.Module) { m.Name = "" }},
		{api.ErrName, func(m *api.Module) { m.Name = "while" }},
		{api.ErrBig, func(m *api.Module) { m.Name = strings.Repeat("m", 33) }},
		{api.ErrBig, func(m *api.Module) { m.Imports = times(17, "k") }},
		{api.ErrName, func(m *api.Module) { m.Imports = []string{"k", "9"} }},
		{api.ErrBig, func(m *api.Module) { m.Decls = times(65, m.Decls[0]) }},
		{api.ErrDeep, func(m *api.Module) { m.Decls[1].Body[0].E[0] = deep }},
		{api.ErrArg, func(m *api.Module) { m.Decls[0].Kind = 0 }},
		{api.ErrArg, func(m *api.Module) { m.Decls[1].Kind = 4 }},
		{api.ErrArg, func(m *api.Module) { m.Decls[1].Type = 4 }},
		{api.ErrArg, func(m *api.Module) { m.Decls[1].Params[0].Type = api.TNone }},
		{api.ErrBig, func(m *api.Module) { m.Decls[1].Params = times(9, api.Param{Name: "p", Type: api.TInt}) }},
		{api.ErrArg, func(m *api.Module) { m.Decls[1].Body[0].Kind = 0 }},
		{api.ErrArg, func(m *api.Module) { m.Decls[1].Body[0].Kind = 10 }},
		{api.ErrArg, func(m *api.Module) { m.Decls[1].Body[0].E = nil }},
		{api.ErrArg, func(m *api.Module) { m.Decls[1].Body[0].E[0].Kind = 9 }},
		{api.ErrArg, func(m *api.Module) {
			m.Decls[1].Body[0].E[0] = api.Expr{Kind: api.EUn, Op: 5, Kids: []api.Expr{{Kind: api.EInput}}}
		}},
		{api.ErrArg, func(m *api.Module) { m.Decls[1].Body[0].E[0] = api.Expr{Kind: api.EBin, Op: api.BAnd} }},
		{api.ErrName, func(m *api.Module) { m.Decls[1].Body[1].Name = "" }},
	} {
		m := module(t, "import k; const A: int = 1; fn f(a: int) { show a; a = 1; }")
		is(t, "as it is", generated(m, kAndJ()...) != wrong(0, api.OK), true)
		c.spoil(&m)
		refused(t, fmt.Sprint("wrong module ", n), m, kAndJ(), 0, c.code)
	}
	refused(t, "no module at all", api.Module{}, nil, 0, api.ErrName)
}

// F16.1: imports that are not given, or whose interface is not right.
func TestErrorsOfImports(t *testing.T) {
	m := module(t, "import k; import j; fn f() { show k.Y; show j.Y; }")
	k, j := kAndJ()[0], kAndJ()[1]
	unordered := showing("k", constant("Y", num(1)), constant("A", num(2)))
	for what, l := range map[string][]api.Iface{
		"none": nil, "one": {k}, "the other": {j}, "one in the spare room": kAndJ()[:1], "one that is not right": {unordered, j}, "a right one behind it": {unordered, k, j},
	} {
		refused(t, what, m, l, 0, api.ErrImport)
	}
	isRight(t, "both", m, []api.Iface{k, j})
	isRight(t, "turned round", m, []api.Iface{j, k})
}

// Of two interfaces of one name the first one counts.
func TestTheFirstInterfaceOfItsName(t *testing.T) {
	m := module(t, "import k; fn f() { show k.Y; k.g(); }")
	one := showing("k", constant("Y", num(1)), fn("g", api.TNone))
	two := showing("k", constant("Y", float(half)), fn("g", api.TInt))
	is(t, "the one", listing(objectOf(t, m, one, two), "f"), "push 1; show; call 0 @k.g; return")
	is(t, "the other", listing(objectOf(t, m, two, one), "f"), "push 0x1p-1; show; call 0 @k.g; drop; return")
	is(t, "the one's Frame", framed(m, one, two), framed(m, one))
	is(t, "the other's Frame", framed(m, two, one), framed(m, two))
}

// Info's Slots are the Locals.
func TestLocals(t *testing.T) {
	m := inF(t, ": float", "let a = p; if t { let b = r; } else { let b = q; } try { let c = 1; } catch c { let d = 1.5; } while t { let a1 = T; } let e = a; return r;")
	info, _, _ := check.Check(m, kAndJ())
	f := objectFn(objectOf(t, m, kAndJ()...), "f")
	is(t, "Locals", fmt.Sprint(f.Fn.Locals), fmt.Sprint(info.Slots[len(info.Slots)-1]))
	is(t, "their types", fmt.Sprint(f.Fn.Locals), fmt.Sprint([]int{1, 2, 3, 1, 2, 3, 1, 1, 2, 3, 1}))
	is(t, "Sig", fmt.Sprint(f.Fn.Sig), fmt.Sprint(code.Sig{Params: []int{1, 2, 3}, Result: 2}))
}
