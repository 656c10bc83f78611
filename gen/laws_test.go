package gen_test

import (
	"fmt"
	"reflect"
	"slices"
	"strings"
	"testing"

	"foundry/api"
	"foundry/check"
	"foundry/code"
	"foundry/floats"
	"foundry/gen"
	"foundry/object"
	"foundry/source"
	"foundry/tree"
)

// madeModule: a module of a project, and the interfaces of those ahead of it, some of which it does not import.
type madeModule struct {
	m     api.Module
	given []api.Iface
	info  check.Info
}

func madeModules(t *testing.T, seed uint64) []madeModule {
	t.Helper()
	var l []madeModule
	var shown []api.Iface
	for _, m := range project(seed) {
		info, at, e := check.Check(m, shown)
		if e != api.OK {
			t.Fatalf("seed %d: %v at %d\n%s", seed, e, at, text(m))
		}
		l = append(l, madeModule{m, slices.Clone(shown), info})
		shown = append(shown, info.Iface)
	}
	return l
}

// some: the last module of each of so many projects; one that may have imports.
func some(t *testing.T, from, n uint64) []madeModule {
	t.Helper()
	var l []madeModule
	for seed := range n {
		made := madeModules(t, from+seed)
		l = append(l, made[len(made)-1])
	}
	return l
}

// The tables: what a model tells that goes another way.
func TestGenIsTheModels(t *testing.T) {
	words := map[string]int{}
	for seed := range uint64(300) {
		for _, x := range madeModules(t, seed) {
			o := objectOf(t, x.m, x.given...)
			for _, d := range x.m.Decls {
				if d.Kind != api.DFn {
					continue
				}
				got, want := listing(o, d.Name), modelListing(x.m, x.given, d)
				if got != want {
					t.Fatalf("seed %d, %s: %s, not %s\n%s", seed, d.Name, got, want, text(x.m))
				}
				for _, line := range strings.Split(got, "; ") {
					words[strings.Fields(line)[0]]++
				}
			}
		}
	}
	for _, word := range strings.Fields("push get put load store un bin jump unless call return show fail input try untry drop") {
		if words[word] < 120 {
			t.Errorf("only %d times: %s", words[word], word)
		}
	}
}

// F16.1: all else that an object has.
func TestObjectsOfMadeModules(t *testing.T) {
	for seed := range uint64(150) {
		for _, x := range madeModules(t, 1000+seed) {
			o := objectOf(t, x.m, x.given...)
			want := object.Object{Module: x.m.Name}
			for _, v := range x.info.Vars {
				want.Vars = append(want.Vars, object.Var{Name: v.Name, Value: v.Value})
			}
			for _, d := range x.m.Decls {
				if d.Kind != api.DFn {
					continue
				}
				f := code.Fn{Sig: code.Sig{Result: d.Type}, Locals: x.info.Slots[len(want.Fns)]}
				for _, p := range d.Params {
					f.Sig.Params = append(f.Sig.Params, p.Type)
				}
				f.Code, _ = gen.Code(x.m, x.given, d.Name)
				want.Fns = append(want.Fns, object.Fn{Name: d.Name, Fn: f})
			}
			want.Relocs = o.Relocs
			is(t, fmt.Sprint("seed ", seed), key(o), key(want))
		}
	}
}

// P1601.
func TestWhatGenAnswersIsRight(t *testing.T) {
	for seed := range uint64(300) {
		for _, x := range madeModules(t, 2000+seed) {
			isRight(t, fmt.Sprint("seed ", seed), x.m, x.given)
		}
	}
}

// What the code does is what the source says.
func TestCodeDoesWhatTheSourceSays(t *testing.T) {
	ends := map[string]int{}
	for seed := range uint64(500) {
		var modules []api.Module
		var objects []object.Object
		for _, x := range madeModules(t, 3000+seed) {
			modules, objects = append(modules, x.m), append(objects, objectOf(t, x.m, x.given...))
		}
		p, e := source.New(modules)
		if e != api.OK {
			t.Fatalf("seed %d: %v", seed, e)
		}
		x := mixer(seed)
		input := x.numbers()
		want, o, _ := p.Run(input, 4000)
		trace, got := machineOf(objects, input, 400000).run()
		what := fmt.Sprint("seed ", seed)
		if o.Kind == api.Running {
			n := min(len(trace), len(want))
			is(t, what+": as far as both go", fmt.Sprint(trace[:n]), fmt.Sprint(want[:n]))
		} else {
			is(t, what, fmt.Sprint(got, trace), fmt.Sprint(o, want))
		}
		ends[fmt.Sprint(o.Kind, o.Trap)]++
	}
	for _, end := range []string{"0 0", "1 0", "2 1", "2 2", "2 3", "2 4", "2 5", "2 6", "2 7"} {
		if ends[end] < 3 {
			t.Errorf("only %d runs end so: %s", ends[end], end)
		}
	}
}

// P1602.

// body: one of a function with that result, whatever else there is.
func anyBody(result int) []api.Stmt {
	return []api.Stmt{{Kind: api.SLet, Name: "onlyHere", E: []api.Expr{lit(num(int64(result)))}}, {Kind: api.SFail, E: []api.Expr{input()}}}
}

// codes: what Code and the Relocs tell of the functions, by name.
func codes(t *testing.T, m api.Module, l []api.Iface) map[string]string {
	t.Helper()
	o, at, e := gen.Gen(m, l)
	is(t, "Gen", fmt.Sprint(at, int(e)), "0 0")
	told := map[string]string{}
	for _, f := range o.Fns {
		told[f.Name] = opsText(f.Fn.Code) + " " + listing(o, f.Name) + fmt.Sprint(f.Fn.Sig, f.Fn.Locals)
	}
	return told
}

func TestDeclarationsPutBehind(t *testing.T) {
	for seed, x := range some(t, 4000, 150) {
		ahead := codes(t, x.m, x.given)
		more := tree.Copy(x.m)
		more.Decls = append(more.Decls,
			api.Decl{Kind: api.DConst, Export: true, Name: "moreC", Type: api.TInt, E: []api.Expr{lit(num(77))}},
			api.Decl{Kind: api.DVar, Name: "moreV", Type: api.TBool, E: []api.Expr{lit(truth(1))}},
			api.Decl{Kind: api.DFn, Name: "moreF", Type: api.TInt, Body: []api.Stmt{returned(bin(api.BMul, api.Expr{Kind: api.EName, Name: "moreC"}, lit(num(2))))}})
		behind := codes(t, more, x.given)
		for name, want := range ahead {
			is(t, fmt.Sprint("seed ", seed, " ", name), behind[name], want)
		}
		// Ahead of all others they are, too.
		n := len(x.m.Decls)
		more.Decls = append(slices.Clone(more.Decls[n:]), more.Decls[:n]...)
		for name, want := range ahead {
			is(t, fmt.Sprint("seed ", seed, " ", name, " behind more"), codes(t, more, x.given)[name], want)
		}
	}
}

func TestOtherBodies(t *testing.T) {
	for seed, x := range some(t, 5000, 120) {
		ahead := codes(t, x.m, x.given)
		for name, want := range ahead {
			other := tree.Copy(x.m)
			for at, d := range other.Decls {
				if d.Kind == api.DFn && d.Name != name {
					other.Decls[at].Body = anyBody(d.Type)
				}
			}
			is(t, fmt.Sprint("seed ", seed, " ", name), codes(t, other, x.given)[name], want)
		}
	}
}

// valued: an expression of literals that has the value.
func valued(v api.Value) api.Expr {
	negative := func(e api.Expr) api.Expr { return api.Expr{Kind: api.EUn, Op: api.UNeg, Kids: []api.Expr{e}} }
	switch {
	case v.Type == api.TInt && int64(v.Bits) < 0:
		return bin(api.BSub, negative(lit(num(-int64(v.Bits+1)))), lit(num(1)))
	case v.Type == api.TFloat && v.Bits>>63 == 1 && v.Bits != floats.NaN:
		return negative(lit(float(v.Bits &^ (1 << 63))))
	}
	return lit(v)
}

// named: the names that stand in there, but for those of modules.
func named(v reflect.Value, told map[string]int) {
	switch v.Kind() {
	case reflect.Struct:
		for i := range v.NumField() {
			if v.Type().Field(i).Name != "Mod" {
				named(v.Field(i), told)
			}
		}
	case reflect.Slice:
		for i := range v.Len() {
			named(v.Index(i), told)
		}
	case reflect.String:
		told[v.String()]++
	}
}

// A function with only what it names beside it, in another order, the constants and variables given by other expressions, and variables by other values.
func TestAFunctionAndWhatItNames(t *testing.T) {
	for seed, x := range some(t, 6000, 120) {
		mix := mixer(uint64(seed))
		ahead := codes(t, x.m, x.given)
		for _, d := range x.m.Decls {
			if d.Kind != api.DFn {
				continue
			}
			names := map[string]int{}
			named(reflect.ValueOf(d), names)
			other := api.Module{Name: x.m.Name, Imports: slices.Clone(x.m.Imports), Decls: []api.Decl{d}}
			for _, o := range x.m.Decls {
				if o.Name == d.Name || names[o.Name] == 0 {
					continue
				}
				switch o.Kind {
				case api.DFn:
					o.Body = anyBody(o.Type)
				case api.DVar:
					o.E = []api.Expr{[]api.Expr{lit(num(99)), lit(float(half)), lit(truth(1))}[o.Type-1]}
				case api.DConst:
					for _, c := range x.info.Consts {
						if c.Mod == "" && c.Name == o.Name {
							o.E = []api.Expr{valued(c.Value)}
						}
					}
				}
				o.Export = false
				other.Decls = append(other.Decls, o)
			}
			shuffle(&mix, other.Decls)
			shuffle(&mix, other.Imports)
			is(t, fmt.Sprint("seed ", seed, " ", d.Name), codes(t, other, x.given)[d.Name], ahead[d.Name])
		}
	}
}

// A constant's value is what is pushed, and nothing else hangs on it.
func TestConstantsOfOtherValues(t *testing.T) {
	for _, c := range []struct {
		typ, one, other string
		told, otherTold string
	}{
		{"int", "5", "6", "5", "6"},
		{"int", "5", "-9223372036854775807 - 1", "5", "-9223372036854775808"},
		{"float", "0.0", "-0.0", "0x0p+0", "-0x0p+0"},
		{"float", "1.5", "0.0 / 0.0", "0x1.8p+0", "nan"},
		{"bool", "true", "false", "true", "false"},
	} {
		list := func(value string) string {
			m := module(t, "const C: "+c.typ+" = "+value+"; const D: "+c.typ+" = C; var v: "+c.typ+" = C; fn f(a: bool): "+c.typ+" { let b = C; v = D; if a { return C; } while C == D { show b; } return v; }")
			return listing(objectOf(t, m), "f")
		}
		want := func(told string) string {
			p := "push " + told
			return p + "; put 1; " + p + "; store 0 @m.v; get 0; unless 8; " + p + "; return; " + p + "; " + p + "; bin ==; unless 15; get 1; show; jump 8; load 0 @m.v; return"
		}
		is(t, c.one, list(c.one), want(c.told))
		is(t, c.other, list(c.other), want(c.otherTold))
	}
	far := module(t, "import k; fn f(): int { return k.Y + k.Y; }")
	for _, n := range []int64{0, 1, -1, 1 << 40, -1 << 63} {
		want := fmt.Sprintf("push %d; push %d; bin +; return", n, n)
		is(t, "another module's", listing(objectOf(t, far, showing("k", constant("Y", num(n)))), "f"), want)
	}
}

// A name that turns from a constant into a variable, and a function that gets a result.
func TestNamesOfOtherKinds(t *testing.T) {
	body := " fn f() { show X; g(); }"
	for _, c := range []struct{ decls, want string }{
		{"const X: int = 1; fn g() { }", "push 1; show; call 0 @m.g; return"},
		{"var X: int = 1; fn g() { }", "load 0 @m.X; show; call 0 @m.g; return"},
		{"const X: bool = true; fn g(): bool { return X; }", "push true; show; call 0 @m.g; drop; return"},
		{"var X: float = 1.5; fn g(): float { return X; }", "load 0 @m.X; show; call 0 @m.g; drop; return"},
	} {
		is(t, c.decls, listing(objectOf(t, module(t, c.decls+body)), "f"), c.want)
		is(t, c.decls+" behind it", listing(objectOf(t, module(t, body+c.decls)), "f"), c.want)
	}
}

// P1603.
func TestInterfacesThatAreNotImported(t *testing.T) {
	strangers := []api.Iface{
		showing("stranger", constant("C0", num(99)), fn("f0", api.TInt)),
		showing("onlyHere", fn("f1", api.TBool, api.TBool)),
		showing("9", constant("z", num(1)), constant("a", num(1))),
		{},
	}
	for seed, x := range some(t, 7000, 200) {
		want, wantFrame := generated(x.m, x.given...), framed(x.m, x.given...)
		var imports []api.Iface
		for _, f := range x.given {
			if slices.Contains(x.m.Imports, f.Name) {
				imports = append(imports, f)
			}
		}
		mix := mixer(uint64(seed))
		more := append(append(slices.Clone(strangers), imports...), showing(x.m.Name, fn("f0", api.TNone)))
		shuffle(&mix, more)
		// Others of the imports' names come behind.
		for _, name := range x.m.Imports {
			more = append(more, showing(name, constant("C0", num(98)), fn("f0", api.TBool)))
		}
		for what, l := range map[string][]api.Iface{"the imports alone": imports, "with more": more} {
			is(t, fmt.Sprint("seed ", seed, ", ", what), generated(x.m, l...), want)
			is(t, fmt.Sprint("seed ", seed, ", Frame, ", what), framed(x.m, l...), wantFrame)
		}
		// What an import shows and nobody names changes the Frame alone.
		for at := range imports {
			imports[at].Items = append(slices.Clone(imports[at].Items), constant("zz0", num(1)), fn("zz1", api.TBool, api.TInt))
		}
		is(t, fmt.Sprint("seed ", seed, ", with more items"), generated(x.m, imports...), want)
		isRight(t, "with more items", x.m, imports)
	}
}

// P1604.
func TestTheOrderOfDeclarations(t *testing.T) {
	for seed, x := range some(t, 8000, 200) {
		o := objectOf(t, x.m, x.given...)
		var vars, fns, wantVars, wantFns []string
		for _, v := range o.Vars {
			vars = append(vars, v.Name)
		}
		for _, f := range o.Fns {
			fns = append(fns, f.Name)
		}
		for _, d := range x.m.Decls {
			switch d.Kind {
			case api.DVar:
				wantVars = append(wantVars, d.Name)
			case api.DFn:
				wantFns = append(wantFns, d.Name)
			}
		}
		what := fmt.Sprint("seed ", seed)
		is(t, what+": Vars", fmt.Sprint(vars), fmt.Sprint(wantVars))
		is(t, what+": Fns", fmt.Sprint(fns), fmt.Sprint(wantFns))
		last := object.Reloc{Fn: -1}
		for _, r := range o.Relocs {
			is(t, what+": Relocs in order", r.Fn > last.Fn || r.Fn == last.Fn && r.At > last.At, true)
			last = r
		}
	}
}

// Errors of modules of which something is changed, most often for the worse.
func TestErrorsOfSpoiledModules(t *testing.T) {
	right, errors := 0, map[api.Errno]int{}
	for seed := range uint64(500) {
		l := madeModules(t, 9000+seed/5)
		x := l[len(l)-1]
		mix := mixer(seed)
		m, given := tree.Copy(x.m), x.given
		if mix.in(8) {
			given = given[:len(given)/2]
		} else {
			mix.spoil(&m)
		}
		_, at, e := check.Check(m, given)
		if e == api.OK {
			right++
			isRight(t, fmt.Sprint("seed ", seed), m, given)
			continue
		}
		errors[e]++
		refused(t, fmt.Sprint("seed ", seed), m, given, at, e)
	}
	is(t, "enough that are right", right > 50, true)
	is(t, "enough errors", len(errors) >= 7, true)
}

func (x *mixer) spoil(m *api.Module) {
	d := &m.Decls[x.below(len(m.Decls))]
	switch x.below(11) {
	case 0:
		m.Imports = append(m.Imports, pick(x, "a", "k", "z", "main", "nobody"))
	case 1:
		m.Imports = m.Imports[:len(m.Imports)/2]
	case 2:
		m.Decls = slices.Delete(m.Decls, 0, 1)
	case 3:
		m.Decls = m.Decls[:len(m.Decls)-1]
	case 4:
		d.Type = x.below(5)
	case 5:
		d.Name = pick(x, "f0", "f1", "C0", "v0", "a", "k", "other", "a1")
	case 6:
		d.Params = append(d.Params, api.Param{Name: pick(x, "p0", "p9", "f1"), Type: 1 + x.below(3)})
	case 7:
		if len(d.Body) > 0 {
			d.Body = slices.Delete(d.Body, 0, 1)
		}
	case 8:
		d.Body = append(d.Body, api.Stmt{Kind: pick(x, api.SShow, api.SFail), E: []api.Expr{{Kind: api.EName, Name: pick(x, "v0", "v1", "C0", "C1", "f0", "nobody")}}})
	case 9:
		d.Body = append(d.Body, api.Stmt{Kind: api.SDo, E: []api.Expr{{Kind: api.ECall, Name: pick(x, "f0", "f1", "f2", "v0", "nobody")}}})
	case 10:
		d.Kind = 1 + x.below(3)
	}
}
