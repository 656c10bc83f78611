package fold_test

import (
	"fmt"
	"math"
	"slices"
	"testing"

	"foundry/api"
	"foundry/fold"
)

// declared: all that Decls answers, as one text.
func declared(m api.Module, far []fold.Const) string {
	consts, vars, at, code := fold.Decls(m, far)
	return declaredText(consts, vars, at, code)
}

func declaredText(consts, vars []fold.Const, at int, code api.Errno) string {
	return fmt.Sprint(append([]fold.Const{}, consts...), append([]fold.Const{}, vars...), " ", at, " ", int(code))
}

func gives(consts, vars []fold.Const) string {
	return declaredText(consts, vars, 0, api.OK)
}

func stops(at int, code api.Errno) string {
	return declaredText(nil, nil, at, code)
}

type list = []fold.Const

func TestExamplesOfDecls(t *testing.T) {
	k := list{far("k", "X", whole(3))}
	m := module(t, "const A: int = 2; const B: int = A * k.X; var v: float = 1.5; const A: int = 1;")
	is(t, "with A twice", declared(m, k), stops(3, api.ErrTwice))
	m.Decls = m.Decls[:3]
	is(t, "with A once", declared(m, k), gives(list{own("A", whole(2)), own("B", whole(6))}, list{own("v", float(1.5))}))
}

// P905.
func TestDecls(t *testing.T) {
	k := list{far("k", "X", whole(3)), far("k", "Y", float(2)), own("S", whole(50)), own("A", whole(60)), far("k", "X", whole(4)), far("k", "W", api.Value{Type: api.TBool, Bits: 2})}
	for _, c := range []struct{ decls, want string }{
		{"", gives(nil, nil)},
		{"const A: int = 1;", gives(list{own("A", whole(1))}, nil)},
		{"var a: bool = true;", gives(nil, list{own("a", truth(true))})},
		{"export const A: float = k.Y; var a: float = A; const B: bool = A == 2.0; var b: bool = !B;", gives(list{own("A", float(2)), own("B", truth(true))}, list{own("a", float(2)), own("b", truth(false))})},
		{"var b: int = 1; const B: int = 2; var a: int = 3; const A: int = 4;", gives(list{own("B", whole(2)), own("A", whole(4))}, list{own("b", whole(1)), own("a", whole(3))})},
		// Constants that stand ahead of the place, and none behind it.
		{"const B: int = C; const C: int = 1;", stops(0, api.ErrUnknown)},
		{"const C: int = C;", stops(0, api.ErrUnknown)},
		{"const C: int = 1; const B: int = C; const D: int = B + C;", gives(list{own("C", whole(1)), own("B", whole(1)), own("D", whole(2))}, nil)},
		{"var b: int = C; const C: int = 1;", stops(0, api.ErrUnknown)},
		// No variable is a constant.
		{"var v: int = 1; const B: int = v;", stops(1, api.ErrUnknown)},
		{"var v: int = 1; var w: int = v;", stops(1, api.ErrUnknown)},
		{"var S: int = 1; const B: int = S;", gives(list{own("B", whole(50))}, list{own("S", whole(1))})},
		{"fn S() { } const B: int = S;", gives(list{own("B", whole(50))}, nil)},
		// Own ones stand ahead of far ones, even where these are not of another module.
		{"const B: int = A; const A: int = 1; const C: int = A;", gives(list{own("B", whole(60)), own("A", whole(1)), own("C", whole(1))}, nil)},
		{"const X: int = 9; const B: int = k.X;", gives(list{own("X", whole(9)), own("B", whole(3))}, nil)},
		{"const B: int = m.B;", stops(0, api.ErrUnknown)},
		{"const A: int = 1; const B: int = m.A;", stops(1, api.ErrUnknown)},
		{"const B: bool = k.W;", stops(0, api.ErrType)},
		// A name twice.
		{"const A: int = 1; const A: int = 2;", stops(1, api.ErrTwice)},
		{"const A: int = 1; var A: int = 2;", stops(1, api.ErrTwice)},
		{"var A: int = 1; fn A() { }", stops(1, api.ErrTwice)},
		{"fn f() { } fn f() { }", stops(1, api.ErrTwice)},
		{"fn f() { } var f: int = 1;", stops(1, api.ErrTwice)},
		{"fn f() { } const B: int = 1; const f: int = 1;", stops(2, api.ErrTwice)},
		{"const A: int = 1; const B: int = 1; const A: bool = 1 / 0;", stops(2, api.ErrTwice)},
		{"const A: int = 1; const B: int = 1 / 0; const A: int = 1;", stops(1, api.ErrZero)},
		// Errors of Eval.
		{"const A: int = 1 / 0;", stops(0, api.ErrZero)},
		{"const A: bool = 1 / 0;", stops(0, api.ErrZero)},
		{"var a: int = 1; var b: int = input;", stops(1, api.ErrConst)},
		{"fn f(): int { return 1; } var b: int = f();", stops(1, api.ErrConst)},
		{"const A: int = 9223372036854775807; const B: int = A + 1;", stops(1, api.ErrRange)},
		{"const A: int = int(1.0 / 0.0);", stops(0, api.ErrConv)},
		{"const A: int = k.Z;", stops(0, api.ErrUnknown)},
		{"const A: int = 1 + 1.0;", stops(0, api.ErrType)},
		// Types.
		{"const A: int = 1.0;", stops(0, api.ErrType)},
		{"const A: float = 1;", stops(0, api.ErrType)},
		{"const A: bool = 1;", stops(0, api.ErrType)},
		{"const A: int = true;", stops(0, api.ErrType)},
		{"var a: float = 0;", stops(0, api.ErrType)},
		{"const A: int = 1; var a: bool = A;", stops(1, api.ErrType)},
		{"const A: bool = k.X == 3; const B: int = k.Y;", stops(1, api.ErrType)},
		// Functions are looked at for their names only.
		{"fn f(a: int, a: bool): int { x = 1 / 0; return unknown(f); } const A: int = 1;", gives(list{own("A", whole(1))}, nil)},
	} {
		is(t, c.decls, declared(module(t, c.decls), k), c.want)
	}
}

func TestDeclsWithoutJustOneExpression(t *testing.T) {
	one, wrong := lit(whole(1)), name("unknown")
	for _, kind := range []int{api.DConst, api.DVar} {
		for _, l := range [][]api.Expr{nil, {}, {one, one}, {wrong, one}, {one, wrong}, {one, one, one}} {
			d := api.Decl{Kind: kind, Name: "B", Type: api.TInt, E: l}
			m := module(t, "const A: int = 1;")
			m.Decls = append(m.Decls, d)
			is(t, fmt.Sprint(kind, len(l)), declared(m, nil), stops(1, api.ErrType))
			m.Decls[1].Name = "A"
			is(t, fmt.Sprint(kind, len(l), " twice"), declared(m, nil), stops(1, api.ErrTwice))
		}
	}
	for _, l := range [][]api.Expr{nil, {one, one}, {wrong}, {{Kind: -1}}} {
		m := api.Module{Decls: []api.Decl{{Kind: api.DFn, Name: "f", Type: 77, E: l}}}
		is(t, "a function", declared(m, nil), gives(nil, nil))
	}
}

func TestDeclsOfTypesThatAreNone(t *testing.T) {
	for _, typ := range []int{api.TNone, -1, 4, 257, math.MinInt, math.MaxInt} {
		for _, kind := range []int{api.DConst, api.DVar} {
			m := api.Module{Decls: []api.Decl{{Kind: kind, Name: "A", Type: typ, E: []api.Expr{lit(whole(1))}}}}
			is(t, fmt.Sprint(typ), declared(m, nil), stops(0, api.ErrType))
		}
	}
}

func TestDeclsOfExpressionsThatAreNotRight(t *testing.T) {
	for at, wrong := range wrongExprs() {
		m := api.Module{Decls: []api.Decl{
			{Kind: api.DFn, Name: "f"},
			{Kind: api.DConst, Name: "A", Type: api.TInt, E: []api.Expr{lit(whole(1))}},
			{Kind: api.DVar, Name: "v", Type: 9, E: []api.Expr{wrong.e}},
		}}
		is(t, fmt.Sprint("wrong expression ", at), declared(m, nil), stops(2, wrong.code))
	}
}

// Of a module that is not right nothing else is asked than what the chapter names.
func TestDeclsOfModulesThatAreNotRight(t *testing.T) {
	one := []api.Expr{lit(whole(1))}
	m := api.Module{Name: "9", Imports: []string{"", "m", "m"}, Decls: []api.Decl{
		{Kind: api.DConst, Name: "", Type: api.TInt, E: one, Params: []api.Param{{}}},
		{Kind: api.DVar, Name: "while", Export: true, Type: api.TInt, E: one, Body: []api.Stmt{{}}},
		{Kind: 0, Name: "a", Type: api.TInt, E: one},
		{Kind: 4, Name: "b", Type: api.TInt, E: []api.Expr{name("unknown")}},
		{Kind: math.MinInt, Name: "c"},
		{Kind: math.MaxInt, Name: "d", E: []api.Expr{{}, {}}},
		{Kind: api.DConst, Name: "A", Type: api.TInt, E: one},
	}}
	is(t, "odd kinds", declared(m, nil), gives(list{own("", whole(1)), own("A", whole(1))}, list{own("while", whole(1))}))
	for at := range m.Decls[:6] {
		last := m.Decls[6]
		last.Name = m.Decls[at].Name
		is(t, fmt.Sprint("the name of ", at, " twice"), declared(api.Module{Decls: append(slices.Clone(m.Decls), last)}, nil), stops(7, api.ErrTwice))
	}
	m.Decls[5].Name = "b"
	is(t, "a name of an odd kind twice", declared(m, nil), stops(5, api.ErrTwice))
	is(t, "no module at all", declared(api.Module{}, nil), gives(nil, nil))
}

func TestDeclsOfMoreThanThereMayBe(t *testing.T) {
	var m api.Module
	var want list
	for n := range 3000 {
		e := lit(whole(0))
		if n > 0 {
			e = binary(api.BAdd, name(fmt.Sprint("a", n-1)), lit(whole(1)))
		}
		m.Decls = append(m.Decls, api.Decl{Kind: api.DConst, Name: fmt.Sprint("a", n), Type: api.TInt, E: []api.Expr{e}})
		want = append(want, own(fmt.Sprint("a", n), whole(int64(n))))
	}
	is(t, "3000 constants", declared(m, nil), gives(want, nil))
}

// decl: a declaration of a few names, most often one that is right by itself.
func (x *mixer) decl() api.Decl {
	e := x.expr(x.below(3))
	d := api.Decl{
		Kind: pick(x, []int{api.DConst, api.DConst, api.DConst, api.DVar, api.DVar, api.DFn}),
		Name: pick(x, []string{"A", "B", "C", "D", "E", "F", "G", "H", "I", "J"}),
		Type: pick(x, []int{api.TInt, api.TInt, api.TFloat, api.TBool}),
		E:    []api.Expr{e},
	}
	if r := modelEval(e, nil); r.code == api.OK && x.below(10) > 0 {
		d.Type = r.value.Type
	}
	switch x.below(40) {
	case 0:
		d.Kind = pick(x, []int{0, 4, -1, math.MaxInt})
	case 1:
		d.Type = pick(x, []int{0, 4, -1, math.MinInt})
	case 2:
		d.E = nil
	case 3:
		d.E = append(d.E, x.literal())
	}
	return d
}

func (x *mixer) module() api.Module {
	m := api.Module{Name: "m", Imports: []string{"k", "l"}}
	for range x.below(5) {
		m.Decls = append(m.Decls, x.decl())
	}
	return m
}

func TestDeclsOfManyModules(t *testing.T) {
	x := mixer(905)
	seen := map[api.Errno]int{}
	for range 60000 {
		m, l := x.module(), x.consts()
		got, want := declared(m, l), declaredText(modelDecls(m, l))
		if got != want {
			t.Fatalf("%v with %v: %s, not %s", m, l, got, want)
		}
		_, _, _, code := fold.Decls(m, l)
		seen[code]++
	}
	for _, code := range []api.Errno{api.OK, api.ErrArg, api.ErrTwice, api.ErrUnknown, api.ErrType, api.ErrConst, api.ErrRange, api.ErrZero, api.ErrConv} {
		if seen[code] < 5 {
			t.Errorf("%v: only %d times", code, seen[code])
		}
	}
}

func TestDeclsAnswerNoListsBesideAnError(t *testing.T) {
	m := module(t, "const A: int = 1; var v: int = 1; const B: int = 1 / 0;")
	consts, vars, at, code := fold.Decls(m, list{far("k", "X", whole(1))})
	is(t, "lists", len(consts)+len(vars), 0)
	is(t, "place", at, 2)
	is(t, "error", code, api.ErrZero)
}

func TestDeclsLeaveWhatIsHandedIn(t *testing.T) {
	x := mixer(95)
	for range 3000 {
		m, l := roomyModule(x.module()), roomyConsts(x.consts())
		moduleAhead, constsAhead, first := moduleKey(m), constsKey(l), declared(m, l)
		consts, vars, _, _ := fold.Decls(m, l)
		scribble(consts)
		if moduleKey(m) != moduleAhead || constsKey(l) != constsAhead {
			t.Fatalf("%v with %v: changed", m, l)
		}
		// Nor do the two lists share memory.
		_, want, _, _ := fold.Decls(m, l)
		is(t, "variables behind scribbled constants", fmt.Sprint(vars), fmt.Sprint(want))
		scribble(vars)
		is(t, "asked again", declared(m, l), first)
	}
}

// P906.
func TestFar(t *testing.T) {
	fn := api.Item{Kind: api.DFn, Name: "f", Type: api.TInt, Bits: 7, Params: []int{api.TInt}}
	item := func(name string, v api.Value) api.Item {
		return api.Item{Kind: api.DConst, Name: name, Type: v.Type, Bits: v.Bits}
	}
	k := api.Iface{Name: "k", Items: []api.Item{item("Y", whole(-1)), fn, item("X", float(1.5))}}
	a := api.Iface{Name: "a", Items: []api.Item{item("X", truth(true))}}
	for _, c := range []struct {
		what string
		l    []api.Iface
		want list
	}{
		{"none", nil, nil},
		{"an empty list", []api.Iface{}, nil},
		{"one without an item", []api.Iface{{Name: "k"}}, nil},
		{"functions only", []api.Iface{{Name: "k", Items: []api.Item{fn, fn}}}, nil},
		{"two", []api.Iface{k, a}, list{far("k", "Y", whole(-1)), far("k", "X", float(1.5)), far("a", "X", truth(true))}},
		{"the other way round", []api.Iface{a, k}, list{far("a", "X", truth(true)), far("k", "Y", whole(-1)), far("k", "X", float(1.5))}},
		{"one twice", []api.Iface{a, a}, list{far("a", "X", truth(true)), far("a", "X", truth(true))}},
		{"no name", []api.Iface{{Items: a.Items}}, list{own("X", truth(true))}},
	} {
		is(t, c.what, fmt.Sprint(fold.Far(c.l)), fmt.Sprint(c.want))
	}
}

// Of items that are not right no more is asked than whether they are constants.
func TestFarOfItemsThatAreNotRight(t *testing.T) {
	for _, v := range allValues() {
		l := []api.Iface{{Name: "9", Items: []api.Item{{Kind: api.DConst, Type: v.Type, Bits: v.Bits, Params: []int{1}}}}}
		is(t, fmt.Sprint(v), fmt.Sprint(fold.Far(l)), fmt.Sprint(list{far("9", "", v)}))
	}
	for _, kind := range []int{0, api.DVar, api.DFn, 4, -1, 257, math.MinInt, math.MaxInt} {
		l := []api.Iface{{Name: "k", Items: []api.Item{{Kind: kind, Name: "X", Type: api.TInt}}}}
		is(t, fmt.Sprint(kind), len(fold.Far(l)), 0)
	}
}

func TestFarLeavesWhatIsHandedIn(t *testing.T) {
	items := []api.Item{{Kind: api.DConst, Name: "X", Type: api.TInt, Bits: 1, Params: []int{}}, {Kind: api.DFn, Name: "f"}, {Kind: api.DConst, Name: "spare"}}
	l := []api.Iface{{Name: "k", Items: items[:2]}, {Name: "spare", Items: items}}[:1]
	ahead := fmt.Sprint(l[:2], items)
	got := fold.Far(l)
	scribble(got)
	is(t, "what is handed in", fmt.Sprint(l[:2], items), ahead)
	is(t, "asked again", fmt.Sprint(fold.Far(l)), fmt.Sprint(list{far("k", "X", whole(1))}))
}
