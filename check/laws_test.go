package check_test

import (
	"fmt"
	"maps"
	"slices"
	"testing"

	"foundry/api"
	"foundry/check"
	"foundry/fold"
	"foundry/iface"
	"foundry/tree"
	"foundry/types"
)

// taken: modules that Check takes, each as the test asks for it.
func taken(t *testing.T, first uint64, each func(x *maker, info check.Info)) {
	t.Helper()
	for seed := range uint64(700) {
		x := made(first+seed, 0)
		info, at, code := check.Check(x.m, x.given)
		if at != 0 || code != api.OK {
			t.Fatalf("seed %d: %d at %d", first+seed, code, at)
		}
		each(x, info)
	}
}

// P1201.
func TestAFunctionMore(t *testing.T) {
	for _, astrayIn := range []int{0, 40} {
		right, bad := 0, 0
		taken(t, 10000, func(x *maker, info check.Info) {
			x.astrayIn = astrayIn
			f := x.head(2)
			f.Kind, f.Name, f.Export, f.Type, f.E = api.DFn, "fresh", x.below(2) == 0, x.below(4), nil
			number := len(x.m.Decls)
			x.m.Decls = append(slices.Clone(x.m.Decls), f)
			x.m.Decls[number].Body = x.body(f, 3)
			more, at, code := check.Check(x.m, x.given)
			if code != api.OK {
				bad++
				is(t, "only the function itself can be wrong", at, number)
				return
			}
			right++
			is(t, "Consts", constsKey(more.Consts), constsKey(info.Consts))
			is(t, "Vars", constsKey(more.Vars), constsKey(info.Vars))
			is(t, "Slots", slotsKey(more.Slots[:len(info.Slots)]), slotsKey(info.Slots))
			is(t, "functions", len(more.Slots), len(info.Slots)+1)
			rest := more.Iface
			rest.Items = slices.DeleteFunc(rest.Items, func(i api.Item) bool { return i.Name == "fresh" })
			is(t, "Iface", ifaceKey(rest), ifaceKey(info.Iface))
		})
		if right < 200 || (bad > 0) != (astrayIn > 0) {
			t.Errorf("%d right, %d not, one astray in %d", right, bad, astrayIn)
		}
	}
}

// A function that is taken where it stands alone, and gives no name that is there already.
func TestAFunctionThatIsRightByItself(t *testing.T) {
	for _, text := range []string{
		"fn fresh() { }",
		"export fn fresh(p1: int): int { let p2 = p1 * 2; return p2; }",
		"fn fresh(p1: float): bool { if p1 < 0.5 { return fresh(p1 + 1.0); } else { fail 3; } }",
		"fn fresh() { try { fresh(); } catch p1 { show p1; } while input > 0 { let p2 = true; show p2; } }",
	} {
		alone, _, code := check.Check(module(t, text), nil)
		is(t, text, code, api.OK)
		taken(t, 20000, func(x *maker, info check.Info) {
			x.m.Decls = append(slices.Clone(x.m.Decls), module(t, text).Decls[0])
			more, _, code := check.Check(x.m, x.given)
			is(t, text, code, api.OK)
			is(t, text, slotsKey(more.Slots), slotsKey(append(slices.Clone(info.Slots), alone.Slots...)))
		})
	}
}

// namedBy: all that the module names of its imports.
func namedBy(m api.Module) map[[2]string]bool {
	named := map[[2]string]bool{}
	for _, d := range m.Decls {
		eachExprOf(d.E, d.Body, func(e api.Expr) {
			if e.Kind == api.EFar || e.Kind == api.EFarCall {
				named[[2]string{e.Mod, e.Name}] = true
			}
		})
	}
	return named
}

func eachExprOf(l []api.Expr, body []api.Stmt, do func(api.Expr)) {
	for _, e := range l {
		do(e)
		eachExprOf(e.Kids, nil, do)
	}
	for _, s := range body {
		eachExprOf(s.E, s.Body, do)
		eachExprOf(nil, s.Else, do)
	}
}

// otherIfaces: of each import what the module names, and of all else anything; and other interfaces, of which it is asked nothing.
func otherIfaces(x *maker, l []api.Iface) []api.Iface {
	named := namedBy(x.m)
	var other []api.Iface
	met := map[string]bool{}
	for _, f := range l {
		g := showing(f.Name)
		for _, i := range f.Items {
			switch {
			case named[[2]string{f.Name, i.Name}]:
				g.Items = append(g.Items, i)
			case x.below(2) == 0:
				g.Items = append(g.Items, x.rightItem(i.Name))
			}
		}
		if x.below(2) == 0 {
			g.Items = append(g.Items, x.rightItem("zz"))
		}
		if met[f.Name] || !slices.Contains(x.m.Imports, f.Name) {
			g = showing(f.Name, x.rightItem("zz"), x.rightItem("a"))
		}
		met[f.Name] = true
		other = append(other, g)
	}
	return slices.Insert(other, x.below(len(other)+1), x.iface("other"))
}

// withoutConsts: all that Check answers but for the imports' constants.
func withoutConsts(m api.Module, l []api.Iface) string {
	info, at, code := check.Check(m, l)
	info.Consts = slices.DeleteFunc(info.Consts, func(c fold.Const) bool { return c.Mod != "" })
	return stops(info, at, code)
}

// P1202.
func TestCheckHangsOnItsImportsAlone(t *testing.T) {
	seen := map[api.Errno]int{}
	for seed := range uint64(3000) {
		x := made(30000+seed, []int{0, 60}[seed%2])
		x.astrayIn = 0
		var right []api.Iface
		for _, f := range x.given {
			f.Items = types.Sorted(f.Items)
			right = append(right, f)
		}
		want := withoutConsts(x.m, right)
		seen[codeOf(x.m, right...)]++
		is(t, fmt.Sprint("seed ", seed), withoutConsts(x.m, otherIfaces(x, right)), want)
		isImport := func(f api.Iface) bool { return slices.Contains(x.m.Imports, f.Name) }
		alone := slices.DeleteFunc(slices.Clone(right), func(f api.Iface) bool { return !isImport(f) })
		is(t, fmt.Sprint("its imports alone, seed ", seed), checked(x.m, alone...), checked(x.m, right...))
	}
	if seen[api.OK] < 500 || len(seen) < 7 {
		t.Errorf("%v: too few kinds of answers", seen)
	}
}

// renamed: the module with the name turned to another one wherever it is one of the module's own or a local one.
func renamed(m api.Module, from, to string) api.Module {
	m = tree.Copy(m)
	for at := range m.Decls {
		renamedDecl(&m.Decls[at], from, to)
		turn(&m.Decls[at].Name, from, to)
	}
	return m
}

func renamedDecl(d *api.Decl, from, to string) {
	for at := range d.Params {
		turn(&d.Params[at].Name, from, to)
	}
	renamedExprs(d.E, from, to)
	renamedStmts(d.Body, from, to)
}

func turn(name *string, from, to string) {
	if *name == from {
		*name = to
	}
}

func renamedExprs(l []api.Expr, from, to string) {
	for at := range l {
		if l[at].Mod == "" {
			turn(&l[at].Name, from, to)
		}
		renamedExprs(l[at].Kids, from, to)
	}
}

func renamedStmts(l []api.Stmt, from, to string) {
	for at := range l {
		turn(&l[at].Name, from, to)
		renamedExprs(l[at].E, from, to)
		renamedStmts(l[at].Body, from, to)
		renamedStmts(l[at].Else, from, to)
	}
}

// renamable: the functions and variables that are not exported.
func renamable(m api.Module) []string {
	var l []string
	for _, d := range m.Decls {
		if !d.Export && d.Kind != api.DConst && !slices.Contains(m.Imports, d.Name) {
			l = append(l, d.Name)
		}
	}
	return l
}

// P1203: a function or a variable. Of a variable Vars has the new name.
func TestAnotherNameForAFunctionOrAVariable(t *testing.T) {
	seen := map[api.Errno]int{}
	for seed := range uint64(1500) {
		x := made(40000+seed, []int{0, 60}[seed%2])
		isShown := func(name string) bool {
			return slices.ContainsFunc(x.m.Decls, func(d api.Decl) bool { return d.Name == name && (d.Export || d.Kind == api.DConst) })
		}
		for _, from := range renamable(x.m) {
			if isShown(from) {
				continue
			}
			to := pick(&x.mixer, "aaa", "Zz9", "_new", "zzz")
			info, at, code := check.Check(x.m, x.given)
			for v := range info.Vars {
				turn(&info.Vars[v].Name, from, to)
			}
			is(t, fmt.Sprintf("seed %d, %s as %s", seed, from, to), checked(renamed(x.m, from, to), x.given...), stops(info, at, code))
			seen[code]++
		}
	}
	if seen[api.OK] < 500 || len(seen) < 6 {
		t.Errorf("%v: too few kinds of answers", seen)
	}
}

// P1203: a local name throughout its function, whatever is wrong there.
func TestAnotherNameForALocalName(t *testing.T) {
	seen := map[api.Errno]int{}
	for seed := range uint64(1200) {
		x := made(50000+seed, []int{0, 60}[seed%2])
		want := checked(x.m, x.given...)
		for at, d := range x.m.Decls {
			if d.Kind != api.DFn {
				continue
			}
			for _, from := range []string{"a", "b", "x", "m", "local1"} {
				if slices.ContainsFunc(x.m.Decls, func(d api.Decl) bool { return d.Name == from }) {
					continue // an outer name, given once more
				}
				m := tree.Copy(x.m)
				renamedDecl(&m.Decls[at], from, "another")
				is(t, fmt.Sprintf("seed %d, %s of %s", seed, from, d.Name), checked(m, x.given...), want)
			}
		}
		seen[codeOf(x.m, x.given...)]++
	}
	if seen[api.OK] < 500 || len(seen) < 6 {
		t.Errorf("%v: too few kinds of answers", seen)
	}
}

// oneLocal: gives one of a function's local names, by its number, another name wherever it is visible.
type oneLocal struct {
	number int
	from   string
}

// given: is this the one?
func (o *oneLocal) given(name *string, known map[string]string) {
	delete(known, *name)
	if o.number == 0 {
		o.from = *name
		known[*name] = "another"
	}
	o.number--
	o.used(name, known)
}

func (o *oneLocal) used(name *string, known map[string]string) {
	if to, there := known[*name]; there {
		*name = to
	}
}

func (o *oneLocal) block(l []api.Stmt, known map[string]string) {
	known = maps.Clone(known)
	for at := range l {
		s := &l[at]
		o.exprs(s.E, known)
		switch s.Kind {
		case api.SLet:
			o.given(&s.Name, known)
		case api.SSet:
			o.used(&s.Name, known)
		}
		o.block(s.Body, known)
		inElse := maps.Clone(known)
		if s.Kind == api.STry {
			o.given(&s.Name, inElse)
		}
		o.block(s.Else, inElse)
	}
}

func (o *oneLocal) exprs(l []api.Expr, known map[string]string) {
	for at := range l {
		if l[at].Kind == api.EName {
			o.used(&l[at].Name, known)
		}
		o.exprs(l[at].Kids, known)
	}
}

// P1203: one let, one catch, one parameter by itself, while others of that name stay.
func TestAnotherNameForOneLocalName(t *testing.T) {
	turned := 0
	taken(t, 60000, func(x *maker, info check.Info) {
		next := 0
		for at, d := range x.m.Decls {
			if d.Kind != api.DFn {
				continue
			}
			for slot := range info.Slots[next] {
				m := tree.Copy(x.m)
				o := &oneLocal{number: slot}
				known := map[string]string{}
				for p := range m.Decls[at].Params {
					o.given(&m.Decls[at].Params[p].Name, known)
				}
				o.block(m.Decls[at].Body, known)
				is(t, fmt.Sprint(o.from, " of ", d.Name), checked(m, x.given...), stops(info, 0, api.OK))
				is(t, "there is another text", tree.Same(m, x.m), false)
				turned++
			}
			next++
		}
	})
	if turned < 3000 {
		t.Errorf("only %d names", turned)
	}
}

// P1204.
func TestInfosInterfaceIsExtracts(t *testing.T) {
	taken(t, 70000, func(x *maker, info check.Info) {
		f, _, code := iface.Extract(x.m, x.given)
		is(t, "Extract", code, api.OK)
		is(t, "Iface", ifaceKey(info.Iface), ifaceKey(f))
	})
}

// run: works expressions out with any values that variables, calls and input can have.
type run struct {
	*maker
	t    *testing.T
	info check.Info
}

// value: one that the expression can have; false, if it traps.
func (r *run) value(e api.Expr) (api.Value, bool) {
	switch e.Kind {
	case api.ELit:
		return e.Value, true
	case api.EInput:
		return r.mixer.value(api.TInt), true
	case api.EName, api.EFar:
		return r.named(e), true
	case api.ECall, api.EFarCall:
		return r.call(e)
	case api.EUn:
		a, has := r.value(e.Kids[0])
		if !has {
			return a, false
		}
		return r.done(fold.Un(e.Op, a))
	}
	a, has := r.value(e.Kids[0])
	if !has || e.Op == api.BAnd && a.Bits == 0 || e.Op == api.BOr && a.Bits == 1 {
		return a, has
	}
	b, has := r.value(e.Kids[1])
	if !has {
		return b, false
	}
	return r.done(fold.Bin(e.Op, a, b))
}

func (r *run) done(v api.Value, trap int) (api.Value, bool) {
	if trap < 0 {
		r.t.Fatal("an operation that is none")
	}
	return v, trap == 0
}

func (r *run) named(e api.Expr) api.Value {
	for _, c := range r.info.Consts {
		if c.Mod == e.Mod && c.Name == e.Name {
			return c.Value
		}
	}
	for _, c := range r.info.Vars {
		if e.Mod == "" && c.Name == e.Name {
			return r.mixer.value(c.Value.Type)
		}
	}
	r.t.Fatalf("%s.%s has no value", e.Mod, e.Name)
	return api.Value{}
}

func (r *run) call(e api.Expr) (api.Value, bool) {
	f := api.Item{}
	for _, d := range r.m.Decls {
		if e.Mod == "" && d.Name == e.Name {
			f = api.Item{Type: d.Type}
			for _, p := range d.Params {
				f.Params = append(f.Params, p.Type)
			}
		}
	}
	for _, g := range slices.Backward(r.given) {
		if item, there := types.Get(g, e.Name); there && g.Name == e.Mod {
			f = item
		}
	}
	is(r.t, "arguments", len(e.Kids), len(f.Params))
	for at, kid := range e.Kids {
		v, has := r.value(kid)
		if !has {
			return v, false
		}
		is(r.t, "an argument's type", v.Type, f.Params[at])
	}
	if f.Type == api.TNone {
		return api.Value{}, true
	}
	return r.mixer.value(f.Type), true
}

// P1205.
func TestValuesAreOfTheTypeThatIsTold(t *testing.T) {
	values, traps, none := 0, 0, 0
	for seed := range uint64(1500) {
		x := made(80000+seed, 0).outer()
		info, _, code := check.Check(x.m, x.given)
		is(t, fmt.Sprint("seed ", seed), code, api.OK)
		r := &run{x, t, info}
		x.astrayIn = 20
		for range 20 {
			e := x.expr(x.below(4), 4)
			typ, code := check.Type(x.m, x.given, e)
			if code != api.OK {
				none++
				continue
			}
			v, has := r.value(e)
			if !has {
				traps++
				continue
			}
			values++
			if text, _ := tree.Text(e); v.Type != typ || typ != api.TNone && !types.Right(v) {
				t.Fatalf("seed %d, %s: %v, but the type %d", seed, text, v, typ)
			}
		}
	}
	if values < 5000 || traps < 300 || none < 1000 {
		t.Errorf("%d values, %d traps, %d errors", values, traps, none)
	}
}

// P6: of constant expressions the value is fold's, and of that type.
func TestConstantExpressions(t *testing.T) {
	both := 0
	taken(t, 90000, func(x *maker, info check.Info) {
		x.outer().astrayIn = 9
		e := x.expr(1+x.below(3), 3)
		v, code := fold.Eval(e, info.Consts)
		typ, wrong := check.Type(x.m, x.given, e)
		if code == api.OK && wrong == api.OK {
			is(t, "type", v.Type, typ)
			both++
		}
	})
	if both < 100 {
		t.Errorf("only %d of both", both)
	}
}
