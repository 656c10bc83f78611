package source_test

import (
	"fmt"
	"strings"
	"testing"

	"foundry/api"
	"foundry/source"
)

const bareMain = "module main; fn main(): int { return 1; }"

// refused fails unless New takes no such project, in no order of its modules.
func refused(t *testing.T, what string, l []api.Module) {
	t.Helper()
	for range max(len(l), 1) {
		p, code := source.New(l)
		is(t, what, code, api.ErrArg)
		is(t, what+": no program", p == nil, true)
		if len(l) > 0 {
			l = append(append([]api.Module{}, l[1:]...), l[0])
		}
	}
}

func taken(t *testing.T, what string, l []api.Module) {
	t.Helper()
	p, code := source.New(l)
	is(t, what, code, api.OK)
	is(t, what+": a program", p != nil, true)
}

// P1301: how many modules there are, and their names.

func withMain(t *testing.T, others int) []api.Module {
	t.Helper()
	texts := []string{bareMain}
	for n := range others {
		texts = append(texts, fmt.Sprintf("module m%d; export const N: int = %d;", n, n))
	}
	return modules(t, texts...)
}

func TestNewOfMany(t *testing.T) {
	taken(t, "main alone", withMain(t, 0))
	taken(t, "as many as there may be", withMain(t, api.MaxModules-1))
	refused(t, "one too many", withMain(t, api.MaxModules))
	refused(t, "many too many", withMain(t, 3*api.MaxModules))
	refused(t, "none", nil)
	refused(t, "none, empty", []api.Module{})
}

func TestNewOfTwoOfOneName(t *testing.T) {
	refused(t, "main and main", modules(t, bareMain, bareMain))
	refused(t, "k and k", modules(t, bareMain, "module k;", "module k;"))
	refused(t, "k and another k", modules(t, bareMain, "module k;", "module a;", "module k; const A: int = 1;"))
	refused(t, "two that are imported", modules(t, "module main; import k; fn main(): int { return k.N; }", "module k; export const N: int = 1;", "module k; export const N: int = 1;"))
	taken(t, "k and K", modules(t, bareMain, "module k;", "module K;"))
}

func TestNewOfNamesThatAreNone(t *testing.T) {
	for _, name := range []string{"", "9", "if", "a b", strings.Repeat("m", api.MaxName+1)} {
		refused(t, name, append(modules(t, bareMain), api.Module{Name: name}))
		l := modules(t, bareMain)
		l[0].Imports = []string{name}
		refused(t, "imported: "+name, l)
	}
	taken(t, "a long name", append(modules(t, bareMain), api.Module{Name: strings.Repeat("m", api.MaxName)}))
}

// P1301: depgraph's order.

func TestNewOfMissingImports(t *testing.T) {
	refused(t, "main's", modules(t, "import k; fn main(): int { return 1; }"))
	refused(t, "another's", modules(t, bareMain, "module a; import b;"))
	refused(t, "a far one", modules(t, "import a; fn main(): int { return 1; }", "module a; import b;", "module b; import c;"))
	taken(t, "it is there", modules(t, "import a; fn main(): int { return 1; }", "module a; import b;", "module b; import c;", "module c;"))
}

func TestNewOfRings(t *testing.T) {
	refused(t, "main of itself", modules(t, "import main; fn main(): int { return 1; }"))
	refused(t, "another of itself", modules(t, bareMain, "module a; import a;"))
	refused(t, "of two with main", modules(t, "import a; fn main(): int { return 1; }", "module a; import main;"))
	refused(t, "of three, not main's", modules(t, bareMain, "module a; import b;", "module b; import c;", "module c; import a;"))
	refused(t, "under main", modules(t, "import a; fn main(): int { return 1; }", "module a; import b;", "module b; import a;"))
	taken(t, "main imported by others", modules(t, bareMain, "module a; import main;", "module b; import a; import main;"))
}

// importing: a module main with as many imports, and the modules that it imports.
func importing(t *testing.T, n int) []api.Module {
	t.Helper()
	l := withMain(t, n)
	for _, m := range l[1:] {
		l[0].Imports = append(l[0].Imports, m.Name)
	}
	return l
}

func TestNewOfManyImports(t *testing.T) {
	taken(t, "as many as there may be", importing(t, api.MaxImports))
	refused(t, "one too many", importing(t, api.MaxImports+1))
	l := importing(t, 1)
	l[0].Imports = []string{"m0", "m0"}
	refused(t, "an import that stands twice", l)
}

// P1301: check takes each of the modules, with the interfaces of its imports.

func TestNewOfModulesThatCheckDoesNotTake(t *testing.T) {
	for _, text := range []string{
		"fn f() { x = 1; }",
		"fn f() { let f = 1; }",
		"var v: int = 1 / 0;",
		"const A: int = 1; const A: int = 2;",
		"fn f(a: int): int { if a > 0 { return 1; } }",
		"fn f() { show f(); }",
		"fn f() { return 1; }",
		"const A: bool = 1;",
		"fn f() { if 1 { } }",
		"fn f() { f(1); }",
		"import k; fn f() { show k.hidden; }",
		"import k; fn f() { show k.nobody; }",
		"import k; fn f() { k.own(); }",
		"import k; fn f() { show k.N + 1.5; }",
		"import k; fn f(k: int) { }",
		"import k; fn f() { show k.v; }",
	} {
		k := "module k; export const N: int = 1; const hidden: int = 2; var v: int = 3; fn own() { }"
		refused(t, text, modules(t, bareMain, "module m; "+text, k))
		refused(t, text+" in main", modules(t, text+" fn main(): int { return 1; }", k))
	}
}

// A module is held against what its imports show, not against what others do.
func TestNewWithTheInterfacesOfImports(t *testing.T) {
	k, j := "module k; export const N: int = 1;", "module j; export const N: float = 1.5;"
	taken(t, "k's", modules(t, "import k; fn main(): int { return k.N; }", k, j))
	refused(t, "j's", modules(t, "import j; fn main(): int { return j.N; }", k, j))
	refused(t, "of one that is not imported", modules(t, "import j; fn main(): int { return k.N; }", k, j))
	refused(t, "of an import's import", modules(t, "import i; fn main(): int { return k.N; }", "module i; import k;", k))
	taken(t, "through another", modules(t, "import i; fn main(): int { return i.N; }", "module i; import k; export const N: int = k.N + 1;", k))
}

// spoils: what makes main no module that tree.Right takes.
func spoils() []func(m *api.Module) {
	deep := api.Expr{Kind: api.EInput}
	for range api.MaxDepth + 1 {
		deep = api.Expr{Kind: api.EUn, Op: api.UNeg, Kids: []api.Expr{deep}}
	}
	first := func(m *api.Module) *api.Stmt { return &m.Decls[0].Body[0] }
	return []func(m *api.Module){
		func(m *api.Module) { m.Decls = times(api.MaxItems+1, m.Decls[0]) },
		func(m *api.Module) { m.Decls[0].Kind = 4 },
		func(m *api.Module) { m.Decls[0].Type = 7 },
		func(m *api.Module) { m.Decls[0].E = []api.Expr{{}} },
		func(m *api.Module) { first(m).Kind = 0 },
		func(m *api.Module) { first(m).E = times(2, first(m).E[0]) },
		func(m *api.Module) { first(m).E[0] = deep },
		func(m *api.Module) { first(m).E[0].Kind = 9 },
		func(m *api.Module) { first(m).E[0].Value.Bits = 1 << 63 },
		func(m *api.Module) { first(m).E[0] = api.Expr{Kind: api.EBin, Op: api.BAdd} },
	}
}

func TestNewOfModulesThatAreNotRight(t *testing.T) {
	for n, spoil := range spoils() {
		l := modules(t, bareMain)
		spoil(&l[0])
		refused(t, fmt.Sprint("wrong module ", n), l)
		other := modules(t, bareMain, bareMain)
		other[1].Name = "m"
		spoil(&other[1])
		refused(t, fmt.Sprint("wrong other module ", n), other)
	}
	refused(t, "a module that is nothing", append(modules(t, bareMain), api.Module{}))
}

// P1301: main.

func TestNewWithoutMain(t *testing.T) {
	for _, l := range [][]string{
		{"module m;"},
		{"module m; fn main(): int { return 1; }"},
		{"module Main; fn main(): int { return 1; }"},
		{"module main;"},
		{"module main; fn Main(): int { return 1; }"},
		{"module main; fn f(): int { return 1; }", "module m; fn main(): int { return 1; }"},
		{"module main; const main: int = 1;"},
		{"module main; var main: int = 1;"},
		{"module main; import main2;", "module main2; export fn main(): int { return 1; }"},
		{"module main; fn main(a: int): int { return 1; }"},
		{"module main; fn main(a: int, b: bool): int { return 1; }"},
		{"module main; fn main() { }"},
		{"module main; fn main(): float { return 1.5; }"},
		{"module main; fn main(): bool { return true; }"},
	} {
		refused(t, strings.Join(l, " "), modules(t, l...))
	}
	taken(t, "exported", modules(t, "export fn main(): int { return 1; }"))
	taken(t, "behind others", modules(t, "const A: int = 1; fn f() { } var v: int = 1; fn main(): int { return 1; } fn g() { }"))
}

// P1301: the order of the modules does not matter.

func TestNewInEachOrder(t *testing.T) {
	texts := []string{
		"import a; import b; var v: int = 1; fn main(): int { show v; a.f(); b.f(); a.f(); show v; return a.N + b.N; }",
		"module a; import c; var v: int = 10; export const N: int = c.N + 1; export fn f() { v = v + 1; show v; c.f(); }",
		"module b; import c; var v: int = 20; export const N: int = c.N + 2; export fn f() { v = v + 1; show v; c.f(); }",
		"module c; var v: int = 30; export const N: int = 100; export fn f() { v = v + 1; show v; }",
	}
	// The call; show; three times: a statement, a call, its three statements, of which one calls, and that one's two; show, return.
	want := "1 11 31 21 32 12 33 1 | halted 203 | 28"
	for turn := range 24 {
		left := append([]string{}, texts...)
		var l []string
		for n := 4; n > 0; n-- {
			at := turn % n
			turn /= n
			l = append(l, left[at])
			left = append(left[:at], left[at+1:]...)
		}
		each(t, deed{texts: l, want: want})
	}
}
