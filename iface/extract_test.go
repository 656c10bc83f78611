package iface_test

import (
	"fmt"
	"slices"
	"testing"

	"foundry/api"
	"foundry/floats"
	"foundry/iface"
	"foundry/tree"
)

// extracted: all that Extract answers, as one text.
func extracted(m api.Module, l ...api.Iface) string {
	return extractedText(iface.Extract(m, l))
}

func extractedText(f api.Iface, at int, code api.Errno) string {
	return fmt.Sprint(ifaceKey(f), " ", at, " ", int(code))
}

func shows(f api.Iface) string {
	return extractedText(f, 0, api.OK)
}

func stops(at int, code api.Errno) string {
	return extractedText(api.Iface{}, at, code)
}

func TestExamplesOfExtract(t *testing.T) {
	m := module(t, "module m; export fn f(a: int, b: bool) { } export const X: float = 1.5; const Y: int = 2;")
	is(t, "what is exported", extracted(m), shows(showing("m", constant("X", api.TFloat, 0x3ff8000000000000), fn("f", api.TNone, api.TInt, api.TBool))))
	m = module(t, "module m; import k; export const X: int = k.Y * 2;")
	is(t, "with k", extracted(m, showing("k", num("Y", 21))), shows(showing("m", num("X", 42))))
	is(t, "without k", extracted(m), stops(0, api.ErrImport))
	is(t, "a constant behind", extracted(module(t, "module m; const A: int = B; const B: int = 1;")), stops(0, api.ErrUnknown))
	is(t, "another type", extracted(module(t, "module m; var v: int = 0; const A: bool = 1;")), stops(1, api.ErrType))
}

// F10.1: a module that is not right.

// wrongModule: what makes a module wrong, and the error of that.
type wrongModule struct {
	code  api.Errno
	spoil func(m *api.Module)
}

func wrongModules() []wrongModule {
	deep := api.Expr{Kind: api.EInput}
	for range api.MaxDepth + 1 {
		deep = api.Expr{Kind: api.EUn, Op: api.UNeg, Kids: []api.Expr{deep}}
	}
	many := times(api.MaxParams+1, api.Param{Name: "p", Type: api.TInt})
	return []wrongModule{
		{api.ErrName, func(m *api.Module) { m.Name = "" }},
		{api.ErrName, func(m *api.Module) { m.Name = "while" }},
		{api.ErrBig, func(m *api.Module) { m.Name = long(33) }},
		{api.ErrBig, func(m *api.Module) { m.Imports = times(17, "k") }},
		{api.ErrName, func(m *api.Module) { m.Imports = []string{"k", "9"} }},
		{api.ErrBig, func(m *api.Module) { m.Imports = []string{"k", long(33)} }},
		{api.ErrBig, func(m *api.Module) { m.Decls = times(65, m.Decls[0]) }},
		{api.ErrDeep, func(m *api.Module) { m.Decls[1].E = []api.Expr{deep} }},
		{api.ErrArg, func(m *api.Module) { m.Decls[1].Kind = 0 }},
		{api.ErrArg, func(m *api.Module) { m.Decls[1].E = nil }},
		{api.ErrArg, func(m *api.Module) { m.Decls[1].Type = api.TNone }},
		{api.ErrArg, func(m *api.Module) { m.Decls[2].Export = true }},
		{api.ErrName, func(m *api.Module) { m.Decls[2].Name = "int" }},
		{api.ErrArg, func(m *api.Module) { m.Decls[3].Type = 9 }},
		{api.ErrBig, func(m *api.Module) { m.Decls[3].Params = many }},
		{api.ErrName, func(m *api.Module) { m.Decls[3].Params[0].Name = "" }},
		{api.ErrArg, func(m *api.Module) { m.Decls[3].Params[0].Type = api.TNone }},
		{api.ErrArg, func(m *api.Module) { m.Decls[3].Body[0].Kind = 0 }},
		{api.ErrName, func(m *api.Module) { m.Decls[3].Body[1].Name = "if" }},
	}
}

func TestExtractOfAModuleThatIsNotRight(t *testing.T) {
	for _, text := range []string{
		"module m; import k; const A: int = 1; export const B: int = A; var v: int = 2; export fn f(a: int) { show a; v = 1; }",
		// Imports that are not there and declarations that are wrong come behind it.
		"module m; import k; import nobody; const A: int = 1 / 0; const A: int = x; var v: int = true; export fn f(a: int) { show a; v = 1; }",
	} {
		for n, wrong := range wrongModules() {
			m := module(t, text)
			wrong.spoil(&m)
			what := fmt.Sprint("wrong module ", n)
			is(t, what+" by tree.Right", tree.Right(m), wrong.code)
			is(t, what, extracted(m), stops(0, wrong.code))
			is(t, what+", with k", extracted(m, showing("k", num("A", 1))), stops(0, wrong.code))
			is(t, what+", with a k that is not right", extracted(m, showing("k", num("b", 1), num("a", 1))), stops(0, wrong.code))
		}
	}
	is(t, "no module at all", extracted(api.Module{}), stops(0, api.ErrName))
}

// F10.1: imports.

func TestExtractOfAnImportThatIsNotGiven(t *testing.T) {
	k, j := showing("k", num("Y", 1)), showing("j")
	one := module(t, "module m; import k; const A: int = 1; export const X: int = A;")
	two := module(t, "module m; import j; import k; export const X: int = 1;")
	right := shows(showing("m", num("X", 1)))
	for _, c := range []struct {
		what string
		m    api.Module
		l    []api.Iface
		want string
	}{
		{"one, given", one, []api.Iface{k}, right},
		{"one, given behind another", one, []api.Iface{j, k}, right},
		{"one of none", one, []api.Iface{}, stops(0, api.ErrImport)},
		{"one of others", one, []api.Iface{j, showing("K"), showing("kk"), showing("_k"), showing("m"), showing("")}, stops(0, api.ErrImport)},
		{"one in the spare room", one, []api.Iface{j, k}[:1], stops(0, api.ErrImport)},
		{"two, both given", two, []api.Iface{k, j}, right},
		{"two, the first missing", two, []api.Iface{k}, stops(0, api.ErrImport)},
		{"two, the second missing", two, []api.Iface{j}, stops(0, api.ErrImport)},
		{"none, none given", module(t, "module m; export const X: int = 1;"), nil, right},
	} {
		is(t, c.what, extracted(c.m, c.l...), c.want)
	}
	m := module(t, "module m; import k; const A: int = 1; const B: int = 1 / 0;")
	is(t, "ahead of what declarations have", extracted(m), stops(0, api.ErrImport))
	is(t, "and what they have behind it", extracted(m, k), stops(1, api.ErrZero))
	m = module(t, "module m; import k; var v: bool = 1;")
	is(t, "ahead of what variables have", extracted(m), stops(0, api.ErrImport))
}

func TestExtractOfAnImportThatIsNotRight(t *testing.T) {
	m := module(t, "module m; import j; import k; const A: int = 1; const B: bool = 1; export fn f() { }")
	j := showing("j", num("Y", 1))
	is(t, "a right one", extracted(m, j, showing("k", num("Y", 1))), stops(1, api.ErrType))
	for _, wrong := range wrongIfaces() {
		is(t, wrong.what, extracted(m, j, wrong.f), stops(0, api.ErrImport))
		is(t, wrong.what+", ahead of another", extracted(m, wrong.f, j), stops(0, api.ErrImport))
	}
}

func TestExtractOfAnImportThatStandsTwice(t *testing.T) {
	j, k := showing("j", num("Y", 5)), showing("k", num("Y", 7))
	want := shows(showing("m", num("X", 75)))
	for _, imports := range [][]string{{"j", "k"}, {"k", "j"}, {"k", "k", "j"}, {"j", "k", "j"}, {"k", "j", "j", "k"}, append(times(15, "k"), "j")} {
		m := module(t, "module m; export const X: int = k.Y * 10 + j.Y;")
		m.Imports = imports
		is(t, fmt.Sprint(imports), extracted(m, j, k), want)
		is(t, fmt.Sprint(imports, " the other way round"), extracted(m, k, j), want)
		is(t, fmt.Sprint(imports, " without j"), extracted(m, k), stops(0, api.ErrImport))
	}
}

func TestExtractTakesTheFirstInterfaceOfAName(t *testing.T) {
	one, two, none := showing("k", num("Y", 1)), showing("k", num("Y", 2)), showing("k", fn("Y", api.TInt))
	wrong := showing("k", num("Y", 3), num("A", 3))
	other := showing("j", num("Y", 9))
	m := module(t, "module m; import k; export const X: int = k.Y;")
	for _, c := range []struct {
		what string
		l    []api.Iface
		want string
	}{
		{"one ahead of two", []api.Iface{one, two}, shows(showing("m", num("X", 1)))},
		{"two ahead of one", []api.Iface{other, two, other, one, one}, shows(showing("m", num("X", 2)))},
		{"a wrong one behind", []api.Iface{one, wrong}, shows(showing("m", num("X", 1)))},
		{"a wrong one ahead", []api.Iface{wrong, one}, stops(0, api.ErrImport)},
		{"one that does not show it ahead", []api.Iface{showing("k"), one}, stops(0, api.ErrUnknown)},
		{"one in which it is a function ahead", []api.Iface{none, one}, stops(0, api.ErrUnknown)},
	} {
		is(t, c.what, extracted(m, c.l...), c.want)
	}
}

// F10.1: the errors of fold.Decls.

func TestExtractOfDeclarationsThatAreWrong(t *testing.T) {
	k := showing("k", num("Y", 3), fn("f", api.TInt), constant("t", api.TBool, 1))
	for _, c := range []struct {
		decls string
		want  string
	}{
		{"const A: int = 1 / 0;", stops(0, api.ErrZero)},
		{"export const A: int = 1 / 0;", stops(0, api.ErrZero)},
		{"var v: int = 1 / 0;", stops(0, api.ErrZero)},
		{"export fn f() { } fn g() { } export const A: int = 1 % 0;", stops(2, api.ErrZero)},
		{"export fn f() { } const A: int = 1; var v: int = A / (A - 1);", stops(2, api.ErrZero)},
		{"const A: int = 9223372036854775807; export const B: int = A + 1;", stops(1, api.ErrRange)},
		{"const A: int = 9223372036854775807; var v: int = A * 2;", stops(1, api.ErrRange)},
		{"fn f() { } const A: int = int(1.0 / 0.0);", stops(1, api.ErrConv)},
		{"fn f() { } var v: int = int(nan);", stops(1, api.ErrConv)},
		{"export const A: float = 1;", stops(0, api.ErrType)},
		{"var v: int = 1; var w: bool = 1.0;", stops(1, api.ErrType)},
		{"const A: bool = k.Y;", stops(0, api.ErrType)},
		{"var v: int = k.Y; var w: int = k.t;", stops(1, api.ErrType)},
		{"const A: bool = 1 + true;", stops(0, api.ErrType)},
		{"const A: int = B;", stops(0, api.ErrUnknown)},
		{"const A: int = 1; export const B: int = k.Z;", stops(1, api.ErrUnknown)},
		{"export const A: int = 1; var v: int = k.f;", stops(1, api.ErrUnknown)},
		{"var v: int = 1; const A: int = v;", stops(1, api.ErrUnknown)},
		{"const A: int = 1; const B: int = m.A;", stops(1, api.ErrUnknown)},
		{"fn f(): int { return 1; } export const A: int = f();", stops(1, api.ErrConst)},
		{"var v: int = k.f();", stops(0, api.ErrConst)},
		{"var v: int = 1; var w: int = input;", stops(1, api.ErrConst)},
		{"export const A: int = 1; export const A: int = 1;", stops(1, api.ErrTwice)},
		{"export const A: int = 1; var v: int = 2; export fn A() { }", stops(2, api.ErrTwice)},
		{"export fn f() { } fn g() { } var f: int = 1;", stops(2, api.ErrTwice)},
		{"fn f() { } fn f() { }", stops(1, api.ErrTwice)},
		// The first of several.
		{"const A: int = 1; var v: int = x; const A: int = 1 / 0;", stops(1, api.ErrUnknown)},
		{"const A: int = 1; const A: int = 1 / 0; var v: int = x;", stops(1, api.ErrTwice)},
	} {
		is(t, c.decls, extracted(module(t, "module m; import k; "+c.decls), k), c.want)
	}
}

// P1005, in single cases.
func TestExtractSeesConstantsOfImportsAlone(t *testing.T) {
	j, k := showing("j", num("X", 5)), showing("k", num("X", 6))
	m := module(t, "module m; import k; export const A: int = j.X;")
	is(t, "j is not imported", extracted(m, j, k), stops(0, api.ErrUnknown))
	m = module(t, "module m; export const A: int = k.X;")
	is(t, "nothing is imported", extracted(m, j, k), stops(0, api.ErrUnknown))
	m = module(t, "module m; const B: int = 1; export const A: int = m.X;")
	is(t, "the module's own interface is not imported", extracted(m, showing("m", num("X", 1))), stops(1, api.ErrUnknown))
	m = module(t, "module m; import m; export const A: int = m.X;")
	is(t, "a module that imports itself", extracted(m, showing("m", num("X", 8))), shows(showing("m", num("A", 8))))
	m = module(t, "module m; import k; export const A: int = X;")
	is(t, "an interface without a name is no module's own", extracted(m, showing("", num("X", 1)), k), stops(0, api.ErrUnknown))
	m = module(t, "module m; import k; export const X: int = 1; export const A: int = k.X * 10 + X;")
	is(t, "own and far ones of one name", extracted(m, j, k), shows(showing("m", num("A", 61), num("X", 1))))
	for _, wrong := range wrongIfaces() {
		m := module(t, "module m; import l; export const A: int = l.X;")
		is(t, "no import: "+wrong.what, extracted(m, wrong.f, showing("l", num("X", 2)), wrong.f), shows(showing("m", num("A", 2))))
	}
}

// F10.1: what is shown.

func TestExtractShowsWhatIsExported(t *testing.T) {
	k := showing("k", constant("F", api.TFloat, floats.NaN), num("Y", -4))
	for _, c := range []struct {
		decls string
		want  []api.Item
	}{
		{"", nil},
		{"const A: int = 1;", nil},
		{"var v: int = 1;", nil},
		{"fn f(a: int): int { return a; }", nil},
		{"const A: int = 1; var v: int = 1; fn f() { }", nil},
		{"export const A: int = 1;", []api.Item{num("A", 1)}},
		{"export const A: int = -9223372036854775807 - 1;", []api.Item{num("A", -1<<63)}},
		{"export const A: bool = true; export const B: bool = !A;", []api.Item{constant("A", api.TBool, 1), constant("B", api.TBool, 0)}},
		{"export const A: float = -0.0; export const B: float = k.F; export const C: float = 0.0 / 0.0; export const D: float = -inf;", []api.Item{constant("A", api.TFloat, signBit), constant("B", api.TFloat, floats.NaN), constant("C", api.TFloat, floats.NaN), constant("D", api.TFloat, 0xfff0000000000000)}},
		{"export const A: int = k.Y; const B: int = A - 1; export const C: int = B * B;", []api.Item{num("A", -4), num("C", 25)}},
		// Constants that are not exported, ahead of, between and behind those that are, do not shift values.
		{"const A: int = 1; export const B: int = 2; var v: int = 3; const C: int = 4; fn f() { } export const D: int = 5; const E: int = 6;", []api.Item{num("B", 2), num("D", 5)}},
		{"export fn f() { }", []api.Item{fn("f", api.TNone)}},
		{"export fn f(): int { return 1; }", []api.Item{fn("f", api.TInt)}},
		{"export fn f(): float { return 1.0; }", []api.Item{fn("f", api.TFloat)}},
		{"export fn f(): bool { return true; }", []api.Item{fn("f", api.TBool)}},
		{"export fn f(a: float) { }", []api.Item{fn("f", api.TNone, api.TFloat)}},
		{"export fn f(a: bool): int { return 1; }", []api.Item{fn("f", api.TInt, api.TBool)}},
		{"export fn f(a: int, b: float, c: bool, d: bool, e: float, g: int, h: int, i: bool): bool { return c; }", []api.Item{fn("f", api.TBool, 1, 2, 3, 3, 2, 1, 1, 3)}},
		{"export fn f(a: int) { } export fn g(a: int, b: int) { } export fn h(a: bool) { }", []api.Item{fn("f", 0, 1), fn("g", 0, 1, 1), fn("h", 0, 3)}},
		{"fn f(a: int) { } export fn g(b: bool): int { return 1; } export const A: int = 1; fn h() { }", []api.Item{num("A", 1), fn("g", api.TInt, api.TBool)}},
	} {
		is(t, c.decls, extracted(module(t, "module m; import k; "+c.decls), k), shows(showing("m", c.want...)))
	}
}

func TestExtractOfAModuleWithoutDeclarations(t *testing.T) {
	is(t, "m", extracted(module(t, "module m;")), shows(showing("m")))
	is(t, "a long name", extracted(api.Module{Name: long(32)}), shows(showing(long(32))))
	is(t, "with imports", extracted(module(t, "module m; import k;"), showing("k", num("Y", 1))), shows(showing("m")))
}

func TestExtractPutsItemsInTheOrderOfNames(t *testing.T) {
	names := []string{"A", "B", "Z", "_", "_a", "a", "a0", "aA", "a_", "aa", "b", "z", long(32)}
	slices.Sort(names)
	var decls []api.Decl
	var want []api.Item
	for at, name := range names {
		if at%2 == 0 {
			decls = append(decls, api.Decl{Kind: api.DFn, Export: true, Name: name, Type: at % 4, Params: times(at%9, api.Param{Name: "p", Type: api.TBool})})
			want = append(want, fn(name, at%4, times(at%9, api.TBool)...))
		} else {
			e := api.Expr{Kind: api.ELit, Value: api.Value{Type: api.TInt, Bits: uint64(at)}}
			decls = append(decls, api.Decl{Kind: api.DConst, Export: true, Name: name, Type: api.TInt, E: []api.Expr{e}})
			want = append(want, num(name, int64(at)))
		}
	}
	x := mixer(1001)
	for range 300 {
		is(t, fmt.Sprint(decls), extracted(api.Module{Name: "m", Decls: decls}), shows(showing("m", want...)))
		shuffle(&x, decls)
	}
}

func TestExtractAtTheLimits(t *testing.T) {
	m := api.Module{Name: long(32)}
	var l []api.Iface
	for n := range api.MaxImports {
		name := fmt.Sprintf("k%02d", n)
		m.Imports = append(m.Imports, name)
		l = append(l, showing(name, append(inOrder(63), num("y", int64(n)))...))
	}
	var want []api.Item
	for n := range api.MaxItems {
		name := fmt.Sprintf("d%02d", 63-n)
		if n%2 == 0 {
			m.Decls = append(m.Decls, api.Decl{Kind: api.DFn, Export: true, Name: name, Params: times(8, api.Param{Name: "p", Type: api.TFloat})})
			want = append(want, fn(name, api.TNone, times(8, api.TFloat)...))
			continue
		}
		e := api.Expr{Kind: api.EFar, Mod: m.Imports[n%16], Name: "y"}
		m.Decls = append(m.Decls, api.Decl{Kind: api.DConst, Export: true, Name: name, Type: api.TInt, E: []api.Expr{e}})
		want = append(want, num(name, int64(n%16)))
	}
	slices.Reverse(want)
	is(t, "as much as there may be", extracted(m, l...), shows(showing(long(32), want...)))
	m.Decls = append(m.Decls, m.Decls[0])
	is(t, "a declaration more", extracted(m, l...), stops(0, api.ErrBig))
	m.Decls, m.Imports = m.Decls[:64], append(m.Imports, "k00")
	is(t, "an import more", extracted(m, l...), stops(0, api.ErrBig))
	is(t, "a great list", extracted(module(t, "module m; import k;"), append(times(5000, showing("j")), showing("k"))...), shows(showing("m")))
}

func TestExtractAsksNothingOfWhatStandsInFunctions(t *testing.T) {
	for _, body := range []string{
		"", "return 1;", "return true;", "x = 1;", "show nobody.X;", "nobody.f(1);", "f(1, 2, 3);", "let a = 1 / 0; let a = 2;", "show 1 + true;", "fail 1.5;", "if 1 { return; }", "while 2 { try { A = 3; } catch A { } }",
	} {
		m := module(t, "module m; const A: int = 1; export fn f(a: int, a: bool): int { "+body+" } fn g() { "+body+" }")
		is(t, body, extracted(m), shows(showing("m", fn("f", api.TInt, api.TInt, api.TBool))))
	}
}

func TestExtractIsTheModels(t *testing.T) {
	x := mixer(1002)
	seen := map[api.Errno]int{}
	for range 40000 {
		m, l := x.module(), x.ifaces()
		got, want := extracted(m, l...), extractedText(modelExtract(m, l))
		if got != want {
			t.Fatalf("%v with %v: %s, not %s", m, l, got, want)
		}
		_, _, code := iface.Extract(m, l)
		seen[code]++
	}
	for _, code := range []api.Errno{api.OK, api.ErrArg, api.ErrImport, api.ErrTwice, api.ErrUnknown, api.ErrType, api.ErrConst, api.ErrRange, api.ErrZero} {
		if seen[code] < 10 {
			t.Errorf("%v: only %d times", code, seen[code])
		}
	}
}

func TestExtractLeavesWhatIsHandedInAndSharesNothing(t *testing.T) {
	x := mixer(1003)
	items := 0
	for range 4000 {
		m, l := roomyModule(x.module()), roomyIfaces(x.ifaces())
		moduleAhead, ifacesAhead, first := moduleKey(m), wholeKey(l), extracted(m, l...)
		f, _, _ := iface.Extract(m, l)
		other, _, _ := iface.Extract(m, l)
		otherAhead := ifaceKey(other)
		items += len(f.Items)
		listsApart(t, f)
		scribble(f)
		if moduleKey(m) != moduleAhead || wholeKey(l) != ifacesAhead {
			t.Fatalf("%v with %v: changed", m, l)
		}
		is(t, "another answer", ifaceKey(other), otherAhead)
		is(t, "asked again", extracted(m, l...), first)
	}
	if items < 1000 {
		t.Errorf("only %d items in all", items)
	}
}
