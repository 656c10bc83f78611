package gen_test

import (
	"fmt"
	"testing"

	"foundry/api"
	"foundry/code"
	"foundry/gen"
)

// F16.2: Code.

func TestCodeByName(t *testing.T) {
	m := module(t, objectText)
	o := objectOf(t, m, kAndJ()...)
	for _, name := range []string{"a", "b", "c"} {
		is(t, name, coded(m, kAndJ(), name), fmt.Sprint(opsText(objectFn(o, name).Fn.Code), " ", 0))
	}
	for _, name := range []string{"v", "w", "u", "A", "Z", "k", "j", "m", "g", "two", "k.two", "m.a", "x", "e", "", "B", "aa", "if"} {
		is(t, "no function: "+name, coded(m, kAndJ(), name), fmt.Sprint(opsText(nil), " ", int(api.ErrUnknown)))
	}
	is(t, "of nothing", coded(module(t, ""), nil, "f"), fmt.Sprint(opsText(nil), " ", int(api.ErrUnknown)))
}

// Gen's error comes ahead of a name that nobody has.
func TestCodeOfWrongModules(t *testing.T) {
	for text, want := range map[string]api.Errno{
		"fn f() { } fn g() { show x; }":                            api.ErrUnknown,
		"fn f() { } fn g() { show 1 + 1.5; }":                      api.ErrType,
		"import k; fn f() { }":                                     api.ErrImport,
		"fn f() { } fn f() { }":                                    api.ErrTwice,
		"fn f() { } fn g(): int { }":                               api.ErrReturn,
		"fn f() { } const A: int = 1 / 0; fn nobody() { show f; }": api.ErrZero,
	} {
		for _, name := range []string{"f", "nobody", ""} {
			is(t, text+" "+name, coded(module(t, text), nil, name), fmt.Sprint(opsText(nil), " ", int(want)))
		}
		is(t, text, framed(module(t, text)), frameKey(code.Frame{}, want))
	}
}

// F16.2: Frame.

func frameOf(t *testing.T, m api.Module, l ...api.Iface) code.Frame {
	t.Helper()
	p, e := gen.Frame(m, l)
	is(t, "Frame", e, api.OK)
	return p
}

func sig(result int, params ...int) code.Sig {
	return code.Sig{Params: params, Result: result}
}

func TestFrame(t *testing.T) {
	own := []code.Sig{sig(2, 3, 2), sig(0), sig(1)}
	inK := []code.Sig{sig(3, 1), sig(0), sig(1), sig(2, 2, 3)}
	inJ := []code.Sig{sig(0, 2), sig(2)}
	join := func(l ...[]code.Sig) (all []code.Sig) {
		for _, part := range l {
			all = append(all, part...)
		}
		return all
	}
	m := module(t, objectText)
	k, j := kAndJ()[0], kAndJ()[1]
	want := frameKey(code.Frame{Fns: join(own, inK, inJ), Vars: []int{2, 1, 3}}, api.OK)
	is(t, "two imports", framed(m, k, j), want)
	is(t, "given in another order", framed(m, j, k), want)
	is(t, "with others", framed(m, showing("a", fn("a", 1)), j, showing("m", fn("a", 1)), k, showing("k", fn("z", 1)), showing("z", fn("z", 1))), want)
	m.Imports = []string{"j", "k"}
	is(t, "in the order of Imports", framed(m, k, j), frameKey(code.Frame{Fns: join(own, inJ, inK), Vars: []int{2, 1, 3}}, api.OK))
	m.Imports = []string{"j", "far", "k"}
	x := showing("far", constant("A", num(1)), fn("f", 1, 1, 2, 3, 1, 2, 3, 1, 2), constant("g", truth(1)))
	is(t, "with a third one", framed(m, k, x, j), frameKey(code.Frame{Fns: join(own, inJ, []code.Sig{sig(1, 1, 2, 3, 1, 2, 3, 1, 2)}, inK), Vars: []int{2, 1, 3}}, api.OK))
}

func TestFrameOfAlmostNothing(t *testing.T) {
	is(t, "nothing", framed(module(t, "")), frameKey(code.Frame{}, api.OK))
	is(t, "a constant", framed(module(t, "const C: int = 1;")), frameKey(code.Frame{}, api.OK))
	is(t, "a variable", framed(module(t, "var v: bool = true;")), frameKey(code.Frame{Vars: []int{3}}, api.OK))
	is(t, "an import of nothing", framed(module(t, "import x;"), showing("x", constant("C", num(1)))), frameKey(code.Frame{}, api.OK))
	is(t, "an import", framed(module(t, "import x;"), showing("x", fn("f", 2, 1))), frameKey(code.Frame{Fns: []code.Sig{sig(2, 1)}}, api.OK))
	is(t, "a function", framed(module(t, "fn f(a: bool): int { return 1; }")), frameKey(code.Frame{Fns: []code.Sig{sig(1, 3)}}, api.OK))
}

// The greatest Frame: as many imports and items as there may be.
func TestFrameAtTheLimits(t *testing.T) {
	m := api.Module{Name: "m"}
	var l []api.Iface
	for at := range api.MaxImports {
		f := showing(fmt.Sprint("i", at))
		for n := range api.MaxItems {
			f.Items = append(f.Items, fn(fmt.Sprintf("f%02d", n), (at+n)%4, n%3+1))
		}
		m.Imports, l = append(m.Imports, f.Name), append(l, f)
	}
	for n := range api.MaxItems {
		call := api.Expr{Kind: api.EFarCall, Mod: fmt.Sprint("i", n%api.MaxImports), Name: fmt.Sprintf("f%02d", n), Kids: []api.Expr{{Kind: api.ELit, Value: []api.Value{num(1), float(half), truth(1)}[n%3]}}}
		m.Decls = append(m.Decls, api.Decl{Kind: api.DFn, Name: fmt.Sprint("f", n), Body: []api.Stmt{{Kind: api.SDo, E: []api.Expr{call}}}})
	}
	p := frameOf(t, m, l...)
	is(t, "how many", len(p.Fns), api.MaxItems*(1+api.MaxImports))
	for at := range p.Fns {
		want := sig(0)
		if at >= api.MaxItems {
			n := at % api.MaxItems
			want = sig((at/api.MaxItems-1+n)%4, n%3+1)
		}
		is(t, fmt.Sprint("Fns ", at), fmt.Sprint(p.Fns[at]), fmt.Sprint(want))
	}
	isRight(t, "at the limits", m, l)
}
