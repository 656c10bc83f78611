package iface_test

import (
	"fmt"
	"slices"
	"testing"

	"foundry/api"
	"foundry/iface"
	"foundry/types"
)

// extractable: modules that show something, with what they need, each as the test asks for it.
func extractable(t *testing.T, seed mixer, each func(x *mixer, m api.Module, l []api.Iface, f api.Iface)) {
	t.Helper()
	n := 0
	for range 20000 {
		m, l := seed.module(), seed.ifaces()
		f, at, code := iface.Extract(m, l)
		if code != api.OK {
			continue
		}
		if len(f.Items) > 0 {
			n++
		}
		is(t, "place", at, 0)
		each(&seed, m, l, f)
	}
	if n < 1000 {
		t.Errorf("only %d modules that show something", n)
	}
}

// P1002.
func TestExtractHangsOnWhatIsShownAlone(t *testing.T) {
	extractable(t, 1101, func(x *mixer, m api.Module, l []api.Iface, f api.Iface) {
		bare := api.Module{Name: m.Name, Imports: m.Imports}
		for _, d := range m.Decls {
			d.Body = nil
			if d.Kind == api.DConst || d.Export {
				bare.Decls = append(bare.Decls, d)
			}
		}
		is(t, fmt.Sprint("with nothing but constants and what is exported: ", m), extracted(bare, l...), shows(f))
		full := bare
		full.Decls = nil
		for at, d := range bare.Decls {
			if d.Kind == api.DFn {
				d.Body = x.body()
			}
			full.Decls = append(full.Decls, d, hidden(x, fmt.Sprint("hidden", at)))
		}
		is(t, fmt.Sprint("with other bodies, and more that is hidden: ", full), extracted(full, l...), shows(f))
	})
}

// hidden: a declaration that is neither exported nor a constant.
func hidden(x *mixer, name string) api.Decl {
	if x.below(2) == 0 {
		return api.Decl{Kind: api.DFn, Name: name, Type: x.below(4), Params: x.params(), Body: x.body()}
	}
	typ := 1 + x.below(3)
	return api.Decl{Kind: api.DVar, Name: name, Type: typ, E: []api.Expr{x.literal(typ)}}
}

// Of a constant its value alone counts, not how it is written, nor what it is made of.
func TestExtractHangsOnValuesOfConstantsAlone(t *testing.T) {
	k := showing("k", num("Y", 3))
	want := shows(showing("m", num("X", 6)))
	for _, decls := range []string{
		"export const X: int = 6;", "export const X: int = 2 * 3;", "export const X: int = k.Y + k.Y;", "const A: int = 2; const B: int = 1; export const X: int = (A + B) * 2; const C: int = 7;", "export const X: int = 6; const Z: int = X;",
	} {
		is(t, decls, extracted(module(t, "module m; import k; "+decls), k), want)
	}
	m := module(t, "module m; import k; export const X: int = k.Y;")
	is(t, "another value", extracted(m, showing("k", num("Y", 4))), shows(showing("m", num("X", 4))))
	m.Name = "n"
	is(t, "another name", extracted(m, k), shows(showing("n", num("X", 3))))
}

// P1003: constants stay in their order, all else goes anywhere.
func TestExtractDoesNotHangOnTheOrder(t *testing.T) {
	extractable(t, 1102, func(x *mixer, m api.Module, l []api.Iface, f api.Iface) {
		isConst := func(d api.Decl) bool { return d.Kind == api.DConst }
		consts := slices.DeleteFunc(slices.Clone(m.Decls), func(d api.Decl) bool { return !isConst(d) })
		mixed := slices.Clone(m.Decls)
		shuffle(x, mixed)
		next := 0
		for at, d := range mixed {
			if isConst(d) {
				mixed[at] = consts[next]
				next++
			}
		}
		// A variable whose constants now stand behind it would have an error.
		mixed = slices.DeleteFunc(mixed, func(d api.Decl) bool { return d.Kind == api.DVar })
		is(t, fmt.Sprint(m), extracted(api.Module{Name: m.Name, Imports: m.Imports, Decls: mixed}, l...), shows(f))
	})
}

func TestExtractDoesNotHangOnWhereVariablesStand(t *testing.T) {
	want := shows(showing("m", num("A", 1), num("B", 2), fn("f", 0), fn("g", api.TInt, api.TBool)))
	for _, decls := range []string{
		"export const A: int = 1; export const B: int = 2; var v: int = 3; export fn f() { } export fn g(a: bool): int { return v; }",
		"var v: int = 3; export const A: int = 1; export const B: int = 2; export fn g(a: bool): int { return v; } export fn f() { }",
		"export fn g(a: bool): int { return v; } export const A: int = 1; var v: int = 3; export fn f() { } export const B: int = 2;",
		"export fn f() { } export const A: int = 1; export fn g(a: bool): int { return v; } export const B: int = 2; var v: int = 3;",
	} {
		is(t, decls, extracted(module(t, "module m; "+decls)), want)
	}
}

// P1004.
func TestWhatExtractAnswersIsRight(t *testing.T) {
	extractable(t, 1103, func(_ *mixer, m api.Module, _ []api.Iface, f api.Iface) {
		is(t, fmt.Sprint(m), types.RightIface(f), api.OK)
		b, code := iface.Encode(f)
		is(t, fmt.Sprint("bytes of ", m), code, api.OK)
		back, code := iface.Decode(b)
		is(t, fmt.Sprint("bytes read of ", m), code, api.OK)
		is(t, fmt.Sprint("and back of ", m), ifaceKey(back), ifaceKey(f))
	})
}

// P1005: errors hang on nothing else either.
func TestExtractHangsOnNoOtherInterface(t *testing.T) {
	x := mixer(1104)
	for range 20000 {
		m, l := x.module(), x.ifaces()
		want := extracted(m, l...)
		var alone []api.Iface
		for _, f := range l {
			if slices.Contains(m.Imports, f.Name) {
				alone = append(alone, f)
			}
		}
		is(t, fmt.Sprint(m, " with its imports alone"), extracted(m, alone...), want)
		more := slices.Clone(l)
		for range x.below(4) {
			other := x.rightIface(pick(&x, []string{"other", "j", "K", ""}))
			if x.below(2) == 0 {
				other = roomyIface(other)
				shuffle(&x, other.Items)
			}
			more = slices.Insert(more, x.below(len(more)+1), other)
		}
		is(t, fmt.Sprint(m, " with more"), extracted(m, more...), want)
	}
}
