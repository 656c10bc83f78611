package check_test

import (
	"fmt"
	"strings"
	"testing"

	"foundry/api"
	"foundry/check"
	"foundry/tree"
)

// The chapter's examples.
func TestExamples(t *testing.T) {
	k := showing("k", num("Y", 1), fn("g", api.TBool, api.TInt))
	info, at, code := check.Check(module(t, "import k; fn f(a: int): bool { let b = a + k.Y; return k.g(b); }"), []api.Iface{k})
	is(t, "the first one", fmt.Sprint(slotsKey(info.Slots), at, int(code)), fmt.Sprint("[[1 1]]", 0, 0))
	for _, c := range []struct {
		text string
		code api.Errno
	}{
		{"fn f() { x = 1; }", api.ErrUnknown},
		{"fn f() { let f = 1; }", api.ErrTwice},
		{"fn f() { let x = g(); }", api.ErrUnknown},
		{"var v: int = 1 / 0; fn f() { }", api.ErrZero},
		{"fn f(a: int): int { if a > 0 { return 1; } }", api.ErrReturn},
		{"fn f() { if true { let x = 1; } else { let x = 2.5; } show x; }", api.ErrUnknown},
		{"fn f() { show f(); }", api.ErrType},
		{"fn f() { return 1; }", api.ErrType},
		{"import m;", api.ErrTwice},
		{"import k; import k;", api.ErrTwice},
	} {
		is(t, c.text, checked(module(t, c.text), k), wrong(0, c.code))
	}
	is(t, "with an else", codeOf(module(t, "fn f(a: int): int { if a > 0 { return 1; } else { fail 2; } }")), api.OK)
}

// F12.1: a module that is not right.

// spoils: what makes a module wrong, and the error of that.
func spoils() []struct {
	code  api.Errno
	spoil func(m *api.Module)
} {
	deep := api.Expr{Kind: api.EInput}
	for range api.MaxDepth + 1 {
		deep = api.Expr{Kind: api.EUn, Op: api.UNeg, Kids: []api.Expr{deep}}
	}
	return []struct {
		code  api.Errno
		spoil func(m *api.Module)
	}{
		{api.ErrName, func(m *api.Module) { m.Name = "" }},
		{api.ErrName, func(m *api.Module) { m.Name = "if" }},
		{api.ErrBig, func(m *api.Module) { m.Name = strings.Repeat("m", 33) }},
		{api.ErrBig, func(m *api.Module) { m.Imports = times(17, "k") }},
		{api.ErrName, func(m *api.Module) { m.Imports = []string{"k", "9"} }},
		{api.ErrBig, func(m *api.Module) { m.Decls = times(65, m.Decls[0]) }},
		{api.ErrDeep, func(m *api.Module) { m.Decls[0].E[0] = deep }},
		{api.ErrArg, func(m *api.Module) { m.Decls[0].Kind = 4 }},
		{api.ErrArg, func(m *api.Module) { m.Decls[0].E = nil }},
		{api.ErrName, func(m *api.Module) { m.Decls[1].Name = "int" }},
		{api.ErrArg, func(m *api.Module) { m.Decls[1].Type = -1 }},
		{api.ErrBig, func(m *api.Module) { m.Decls[1].Params = times(9, api.Param{Name: "p", Type: api.TInt}) }},
		{api.ErrArg, func(m *api.Module) { m.Decls[1].Params[0].Type = api.TNone }},
		{api.ErrArg, func(m *api.Module) { m.Decls[1].Body[0].Kind = 10 }},
		{api.ErrArg, func(m *api.Module) { m.Decls[1].Body[0].E = nil }},
		{api.ErrArg, func(m *api.Module) { m.Decls[1].Body[0].E[0].Kind = 0 }},
		{api.ErrName, func(m *api.Module) { m.Decls[1].Body[1].Name = "" }},
	}
}

func TestCheckOfAModuleThatIsNotRight(t *testing.T) {
	for _, text := range []string{
		"import k; const A: int = 1; fn f(a: int) { show a; a = 1; }",
		// All else that may be wrong comes behind it.
		"import k; const A: int = x; fn f(a: int): int { show x; a = 1.5; } fn A(f: int) { }",
	} {
		for n, s := range spoils() {
			m := module(t, text)
			s.spoil(&m)
			what := fmt.Sprint("wrong module ", n)
			is(t, what+" by tree.Right", tree.Right(m), s.code)
			is(t, what, checked(m, kAndJ()...), wrong(0, s.code))
			is(t, what+" without k", checked(m), wrong(0, s.code))
			m.Imports = append(m.Imports, "m")
			if s.code != api.ErrBig {
				is(t, what+" that imports itself", checked(m, kAndJ()...), wrong(0, s.code))
			}
		}
	}
	is(t, "no module at all", checked(api.Module{}), wrong(0, api.ErrName))
}

// F12.1: imports.

func TestCheckOfImportsThatStandTwice(t *testing.T) {
	behind := "const k: int = x; fn f(f: int): int { show x; }"
	for _, c := range []struct {
		text string
		code api.Errno
	}{
		{"import k;", api.OK},
		{"import k; import j;", api.OK},
		{"import j; import k;", api.OK},
		{"import m;", api.ErrTwice},
		{"import k; import m;", api.ErrTwice},
		{"import k; import j; import k;", api.ErrTwice},
		{"import k; import k;", api.ErrTwice},
		{"import nobody; import k; import k;", api.ErrTwice},
		{"import nobody; import nobody;", api.ErrTwice},
		{"import nobody; import m;", api.ErrTwice},
	} {
		m := module(t, c.text)
		is(t, c.text, codeOf(m, append(kAndJ(), showing("m"))...), c.code)
		if c.code != api.OK {
			is(t, c.text, checked(m, kAndJ()...), wrong(0, c.code))
			is(t, c.text+behind, checked(module(t, c.text+behind), append(kAndJ(), showing("m"))...), wrong(0, c.code))
		}
	}
}

func TestCheckOfImportsThatAreNotGiven(t *testing.T) {
	k, j := showing("k", num("Y", 1)), showing("j")
	unordered := showing("k", num("b", 1), num("a", 1))
	for _, c := range []struct {
		what string
		l    []api.Iface
		code api.Errno
	}{
		{"both", []api.Iface{k, j}, api.OK},
		{"both, turned round", []api.Iface{j, k}, api.OK},
		{"others too", []api.Iface{showing("x"), j, showing(""), k, showing("m")}, api.OK},
		{"none", nil, api.ErrImport},
		{"one", []api.Iface{j}, api.ErrImport},
		{"the other", []api.Iface{k}, api.ErrImport},
		{"one in the spare room", []api.Iface{k, j}[:1], api.ErrImport},
		{"names that are nearly theirs", []api.Iface{showing("K"), showing("kk"), showing("j")}, api.ErrImport},
		{"one that is not right", []api.Iface{unordered, j}, api.ErrImport},
		{"a right one behind it", []api.Iface{unordered, j, k}, api.ErrImport},
		{"a right one ahead of it", []api.Iface{k, j, unordered}, api.OK},
		{"another that is not right", []api.Iface{k, j, showing("z", num("b", 1), num("a", 1))}, api.OK},
	} {
		m := module(t, "import k; import j; fn f() { }")
		is(t, c.what, codeOf(m, c.l...), c.code)
		if c.code != api.OK {
			is(t, c.what, checked(m, c.l...), wrong(0, c.code))
			// What is wrong in declarations comes behind it.
			more := module(t, "import k; import j; fn f(a: int, a: int) { } const k: int = x; const A: int = 1 / 0; const A: int = 1;")
			is(t, c.what+", and more", checked(more, c.l...), wrong(0, c.code))
		}
	}
}

// F12.1: a declaration with an import's name comes ahead of all that is wrong in declarations.
func TestCheckOfDeclarationsWithAnImportsName(t *testing.T) {
	for _, c := range []struct {
		text string
		at   int
	}{
		{"const k: int = 1;", 0},
		{"var k: int = 1;", 0},
		{"fn k() { }", 0},
		{"export fn j() { }", 0},
		{"const A: int = 1; const j: bool = true;", 1},
		{"const A: int = 1; fn f() { } fn j() { } fn k() { }", 2},
		{"const A: int = 1; fn f() { } fn k() { } fn j() { }", 2},
		{"const A: int = 1 / 0; fn k() { }", 1},
		{"const A: int = 1; const A: int = 2; var k: float = 1;", 2},
		{"fn f(f: int): int { show x; } var k: int = true;", 1},
		{"const A: int = x; const B: bool = 1; var c: int = input; fn f(): int { } fn k() { }", 4},
	} {
		is(t, c.text, checked(module(t, "import k; import j; "+c.text), kAndJ()...), wrong(c.at, api.ErrTwice))
		is(t, "without an import: "+c.text, codeOf(module(t, c.text), kAndJ()...) == api.ErrTwice, strings.Contains(c.text, "const A: int = 2"))
	}
	is(t, "the module's own name", codeOf(module(t, "import k; const m: int = 1;"), kAndJ()...), api.OK)
}

// F12.1: fold.Decls' errors come ahead of all that is wrong in functions.
func TestCheckOfConstantsAndVariables(t *testing.T) {
	for _, c := range []struct {
		text string
		at   int
		code api.Errno
	}{
		{"const A: int = 1; const A: int = 2;", 1, api.ErrTwice},
		{"fn f() { } var v: int = 1; var f: int = 2;", 2, api.ErrTwice},
		{"fn f() { } fn f() { }", 1, api.ErrTwice},
		{"const A: int = B; const B: int = 1;", 0, api.ErrUnknown},
		{"const A: int = k.Y; const B: int = k.Z;", 1, api.ErrUnknown},
		{"const A: int = j.Y;", 0, api.ErrType},
		{"const A: int = k.g;", 0, api.ErrUnknown},
		{"const A: int = l.Y;", 0, api.ErrUnknown},
		{"const A: int = 1; var v: bool = A;", 1, api.ErrType},
		{"var v: int = 1; const A: int = v;", 1, api.ErrUnknown},
		{"const A: int = input;", 0, api.ErrConst},
		{"fn f(): int { return 1; } var v: int = f();", 1, api.ErrConst},
		{"const A: int = 9223372036854775807 + k.Y;", 0, api.ErrRange},
		{"const A: int = 1 % 0;", 0, api.ErrZero},
		{"var v: int = int(0.0 / 0.0);", 0, api.ErrConv},
		{"fn f(f: int): int { show x; } fn g(): int { } var v: int = 1.5;", 2, api.ErrType},
		{"fn f(): int { } const A: int = 1 / 0; const A: int = x;", 1, api.ErrZero},
	} {
		is(t, c.text, checked(module(t, "import k; import j; "+c.text), kAndJ()...), wrong(c.at, c.code))
	}
}

// F12.1: function by function, with its number.
func TestCheckOfFunctionsInTheirOrder(t *testing.T) {
	for _, c := range []struct {
		text string
		at   int
		code api.Errno
	}{
		{"fn f() { show x; } fn g() { show 1 + 1.5; }", 0, api.ErrUnknown},
		{"fn f() { } fn g() { show 1 + 1.5; } fn h(): int { }", 1, api.ErrType},
		{"fn f() { } const A: int = 1; var v: int = 1; fn h(): int { } fn g(g: int) { }", 3, api.ErrReturn},
		{"fn f(f: int) { show x; }", 0, api.ErrTwice},
		{"fn f(a: int, a: int) { show x; }", 0, api.ErrTwice},
		{"fn f(a: int): int { show x; }", 0, api.ErrUnknown},
		{"fn f(a: int): int { show a; }", 0, api.ErrReturn},
		{"fn f(a: int): int { show a; } fn g(a: int, a: int) { }", 0, api.ErrReturn},
		{"fn g() { none(); } fn f() { fail 1.5; } fn none() { }", 1, api.ErrType},
	} {
		is(t, c.text, checked(module(t, c.text)), wrong(c.at, c.code))
	}
}

func TestCheckOfParameters(t *testing.T) {
	for _, c := range []struct {
		params string
		code   api.Errno
	}{
		{"", api.OK},
		{"a: int, b: float, c: bool", api.OK},
		{"a: int, b: int, c: int, d: int, e: int, g: int, h: int, i: int", api.OK},
		{"m: int", api.OK},
		{"Y: int", api.OK},
		{"a: int, a: int", api.ErrTwice},
		{"a: int, b: int, a: float", api.ErrTwice},
		{"f: int", api.ErrTwice},
		{"C: int", api.ErrTwice},
		{"a: int, v: int", api.ErrTwice},
		{"none: int", api.ErrTwice},
		{"behind: int", api.ErrTwice},
		{"k: int", api.ErrTwice},
		{"a: int, j: bool", api.ErrTwice},
		{"a: int, A: int", api.OK},
	} {
		m := module(t, outerText+"fn f("+c.params+") { } fn behind() { }")
		want := wrong(outerCount, c.code)
		if c.code == api.OK {
			want = checked(m, kAndJ()...)
			is(t, c.params, codeOf(m, kAndJ()...), api.OK)
		}
		is(t, c.params, checked(m, kAndJ()...), want)
	}
}

// F12.1: what Info has.
func TestInfo(t *testing.T) {
	m := module(t, `import k; import j;
export const Z: int = k.Y + 1; var v: float = j.Y; const A: bool = Z == 8;
export fn h(a: bool, b: float): int { let c = a; let d = b; return Z; }
fn none() { }
var u: int = Z; export fn e() { let x = k.F; }`)
	want := check.Info{Iface: showing("m", num("Z", 8), fn("e", api.TNone), fn("h", api.TInt, api.TBool, api.TFloat))}
	want.Consts = append(want.Consts,
		own("Z", api.TInt, 8), own("A", api.TBool, 1),
		far("k", "B", api.TBool, 1), far("k", "F", api.TFloat, oneAndAHalf), far("k", "Y", api.TInt, 7),
		far("j", "Only", api.TInt, 3), far("j", "Y", api.TFloat, half))
	want.Vars = append(want.Vars, own("v", api.TFloat, half), own("u", api.TInt, 8))
	want.Slots = [][]int{{api.TBool, api.TFloat, api.TBool, api.TFloat}, {}, {api.TFloat}}
	is(t, "Info", checked(m, kAndJ()...), stops(want, 0, api.OK))
	more := append([]api.Iface{showing("x", num("X", 1)), showing("m", num("M", 1))}, kAndJ()...)
	is(t, "with others that are given", checked(m, append(more, showing("k", num("Other", 1)))...), stops(want, 0, api.OK))

	m.Imports = []string{"j", "k"}
	want.Consts = append(want.Consts[:2:2],
		far("j", "Only", api.TInt, 3), far("j", "Y", api.TFloat, half),
		far("k", "B", api.TBool, 1), far("k", "F", api.TFloat, oneAndAHalf), far("k", "Y", api.TInt, 7))
	is(t, "in another order of imports", checked(m, kAndJ()...), stops(want, 0, api.OK))

	is(t, "nothing", checked(module(t, "")), stops(check.Info{Iface: showing("m")}, 0, api.OK))
	imports := check.Info{Iface: showing("m"), Consts: want.Consts[4:]}
	is(t, "an import alone", checked(module(t, "import k;"), kAndJ()...), stops(imports, 0, api.OK))
}

// As much as a module may have.
func TestCheckAtTheLimits(t *testing.T) {
	var text strings.Builder
	var l []api.Iface
	for n := range api.MaxImports {
		name := fmt.Sprint("i", n)
		text.WriteString("import " + name + "; ")
		l = append(l, showing(name, num("X", int64(n))))
	}
	for n := range api.MaxItems {
		fmt.Fprintf(&text, "export fn f%d(a: int, b: int, c: int, d: int, e: int, f: int, g: int, h: int): int { return f%d(h, g, f, e, d, c, b, a) + i%d.X; } ", n, (n+1)%api.MaxItems, n%api.MaxImports)
	}
	m := api.Module{}
	// The text is longer than one that is parsed, so it is put together by its parts.
	for _, part := range strings.SplitAfter(text.String(), "} ") {
		if part == "" {
			continue
		}
		read := module(t, part)
		m.Name, m.Imports, m.Decls = "m", append(m.Imports, read.Imports...), append(m.Decls, read.Decls...)
	}
	info, at, code := check.Check(m, l)
	is(t, "at the limits", fmt.Sprint(at, int(code), len(info.Slots), len(info.Consts), len(info.Iface.Items)), fmt.Sprint(0, 0, 64, 16, 64))
	m.Decls = append(m.Decls, m.Decls[0])
	is(t, "a declaration more", checked(m, l...), wrong(0, api.ErrBig))
}
