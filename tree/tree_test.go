package tree_test

import (
	"fmt"
	"math"
	"slices"
	"testing"

	"foundry/api"
	"foundry/floats"
	"foundry/tree"
)

// F6.2: Same, SameExpr

func TestSameOfEmptyOnes(t *testing.T) {
	if !tree.Same(api.Module{}, api.Module{}) || !tree.SameExpr(api.Expr{}, api.Expr{}) {
		t.Error("empty ones are not the same")
	}
	empty := api.Module{Imports: []string{}, Decls: []api.Decl{}}
	if !tree.Same(api.Module{}, empty) || !tree.Same(empty, api.Module{}) {
		t.Error("a list without an element is not the same as none")
	}
	if !tree.SameExpr(api.Expr{Kids: []api.Expr{}}, api.Expr{}) {
		t.Error("Kids without an element are not the same as none")
	}
	full := func(l []api.Stmt, e []api.Expr, p []api.Param) api.Module {
		return api.Module{Decls: []api.Decl{{Params: p, E: e, Body: l}, {Body: []api.Stmt{{E: e, Body: l, Else: l}}}}}
	}
	if !tree.Same(full(nil, nil, nil), full([]api.Stmt{}, []api.Expr{}, []api.Param{})) {
		t.Error("lists without an element in a declaration are not the same as none")
	}
}

func TestSamePartsInOneFieldAlone(t *testing.T) {
	for _, m := range []api.Module{{}, {Name: "m"}, sample(), longModule(), constOf(nested(nests()["arguments"], 5)), nestedBlocks(4, show(num(1)))} {
		m = roomy(m)
		before := viewer(true).module(m)
		all := variants(m)
		for i, v := range all {
			if tree.Same(m, v) || tree.Same(v, m) {
				t.Errorf("Same of %s and its variant %d, %s", moduleKey(m), i, moduleKey(v))
			}
			if !tree.Same(v, v) || !tree.Same(v, roomy(v)) {
				t.Errorf("a variant is not itself: %s", moduleKey(v))
			}
			if j := i * 7 % len(all); tree.Same(v, all[j]) != (moduleKey(v) == moduleKey(all[j])) {
				t.Errorf("Same of %s and %s", moduleKey(v), moduleKey(all[j]))
			}
		}
		if !tree.Same(m, roomy(m)) || viewer(true).module(m) != before {
			t.Errorf("%s is not itself, or was changed", moduleKey(m))
		}
	}
}

func TestSameExprPartsInOneFieldAlone(t *testing.T) {
	base := call("f", un(api.UNeg, bin(api.BAdd, far("k", "X"), lit(api.TFloat, floats.NaN))), input())
	for _, v := range variants(constOf(base)) {
		d := v.Decls
		if len(d) != 1 || len(d[0].E) != 1 {
			continue
		}
		e := d[0].E[0]
		want := exprKey(e) == exprKey(base)
		if tree.SameExpr(e, base) != want || tree.SameExpr(base, e) != want {
			t.Errorf("SameExpr of %s and %s is not %t", exprKey(base), exprKey(e), want)
		}
	}
	if !tree.SameExpr(base, roomyExpr(base)) {
		t.Error("an expression is not itself")
	}
	for _, a := range sampleExprs() {
		for _, b := range sampleExprs() {
			if tree.SameExpr(a, b) != (a.Kind == b.Kind) {
				t.Errorf("SameExpr of %s and %s", exprKey(a), exprKey(b))
			}
		}
	}
}

func TestSameGoesByBitsNotByValues(t *testing.T) {
	for _, x := range []struct {
		a, b uint64
		want bool
	}{
		{0, 1 << 63, false}, {floats.NaN, floats.NaN, true}, {floats.NaN, floats.NaN + 1, false}, {infinity, infinity, true}, {0, 0, true},
	} {
		if got := tree.SameExpr(lit(api.TFloat, x.a), lit(api.TFloat, x.b)); got != x.want {
			t.Errorf("SameExpr of the floats %#x and %#x: %t", x.a, x.b, got)
		}
		if got := tree.Same(constOf(lit(api.TFloat, x.a)), constOf(lit(api.TFloat, x.b))); got != x.want {
			t.Errorf("Same of the floats %#x and %#x: %t", x.a, x.b, got)
		}
	}
}

func TestSameDoesNotMixListsUp(t *testing.T) {
	s := []api.Stmt{show(num(1))}
	for _, x := range [][2]api.Module{
		{fnOf(api.Stmt{Kind: api.SIf, Body: s}), fnOf(api.Stmt{Kind: api.SIf, Else: s})},
		{api.Module{Name: "ab"}, api.Module{Name: "a", Imports: []string{"b"}}},
		{api.Module{Imports: []string{"a", "b"}}, api.Module{Imports: []string{"b", "a"}}},
		{api.Module{Decls: sampleDecls()[:2]}, api.Module{Decls: []api.Decl{sampleDecls()[1], sampleDecls()[0]}}},
		{constOf(far("k", "X")), constOf(far("X", "k"))},
		{constOf(bin(api.BAdd, num(1), num(2))), constOf(bin(api.BAdd, num(2), num(1)))},
	} {
		if tree.Same(x[0], x[1]) || tree.Same(x[1], x[0]) {
			t.Errorf("Same of %s and %s", moduleKey(x[0]), moduleKey(x[1]))
		}
	}
}

// P603

func TestSameIsAnEquality(t *testing.T) {
	x := mixer(603)
	var l []api.Module
	for range 60 {
		m := x.spoiled()
		l = append(l, m, roomy(m))
		near := roomy(m)
		x.spoil(&near)
		l = append(l, near)
	}
	for _, a := range l {
		if !tree.Same(a, a) {
			t.Errorf("not itself: %s", moduleKey(a))
		}
		for _, b := range l {
			ab := tree.Same(a, b)
			if ab != tree.Same(b, a) || ab != (moduleKey(a) == moduleKey(b)) {
				t.Errorf("Same of %s and %s: %t", moduleKey(a), moduleKey(b), ab)
			}
			for _, c := range l[:30] {
				if ab && tree.Same(b, c) && !tree.Same(a, c) {
					t.Errorf("Same does not go on through %s", moduleKey(b))
				}
			}
		}
	}
}

// F6.2, P602: Copy

// ruin writes over all that a module has, its lists' spare room too.
func ruin(m *api.Module) {
	p := partsOf(m)
	for _, e := range p.exprs {
		over(e.Kids, name("ruined"))
	}
	for _, s := range p.stmts {
		over(s.E, name("ruined"))
		over(s.Body, api.Stmt{Name: "ruined"})
		over(s.Else, api.Stmt{Name: "ruined"})
	}
	for _, d := range p.decls {
		over(d.Params, api.Param{Name: "ruined"})
		over(d.E, name("ruined"))
		over(d.Body, api.Stmt{Name: "ruined"})
	}
	over(m.Imports, "ruined")
	over(m.Decls, api.Decl{Name: "ruined"})
}

func over[T any](l []T, x T) {
	l = l[:cap(l)]
	for i := range l {
		l[i] = x
	}
}

func isCopied(t *testing.T, m api.Module) {
	t.Helper()
	m = roomy(m)
	key, whole := moduleKey(m), viewer(true).module(m)
	a, b := tree.Copy(m), tree.Copy(m)
	if moduleKey(a) != key || !tree.Same(a, m) || !tree.Same(m, a) {
		t.Errorf("Copy of %s: %s", key, moduleKey(a))
	}
	seen := map[uintptr]int{}
	for _, x := range []*api.Module{&m, &a, &b} {
		for _, base := range partsOf(x).bases {
			if seen[base]++; seen[base] > 1 {
				t.Errorf("Copy of %s shares a list", key)
			}
		}
	}
	ruin(&a)
	if viewer(true).module(m) != whole || moduleKey(b) != key {
		t.Errorf("Copy of %s: what is written into it is seen", key)
	}
	ruin(&m)
	if moduleKey(b) != key {
		t.Errorf("Copy of %s: what is written into the first one is seen", key)
	}
}

func TestCopyIsTheSameAndSharesNothing(t *testing.T) {
	for _, m := range []api.Module{{}, {Name: "m"}, {Imports: []string{"k"}}, {Decls: []api.Decl{{}}}, sample(), longModule()} {
		isCopied(t, m)
	}
	for _, v := range variants(longModule()) {
		isCopied(t, v)
	}
	x := mixer(602)
	for range 1500 {
		isCopied(t, x.spoiled())
	}
}

func TestCopyPartsWhatIsShared(t *testing.T) {
	kids := []api.Expr{num(1)}
	e := []api.Expr{call("f", kids...), call("g", kids...)}
	e[0].Kids, e[1].Kids = kids, kids
	body := []api.Stmt{{Kind: api.SDo, E: e}}
	m := api.Module{Decls: []api.Decl{{E: e, Body: body}, {E: e[:1], Body: []api.Stmt{{Body: body, Else: body}}}}}
	key := moduleKey(m)
	c := tree.Copy(m)
	seen := map[uintptr]int{}
	for _, base := range partsOf(&c).bases {
		if seen[base]++; seen[base] > 1 {
			t.Error("two lists of a copy share memory")
		}
	}
	if moduleKey(c) != key {
		t.Errorf("Copy of %s: %s", key, moduleKey(c))
	}
}

// F6.2: Depth

func isDepth(t *testing.T, what string, m api.Module, want int) {
	t.Helper()
	m = roomy(m)
	before := viewer(true).module(m)
	if got := tree.Depth(m); got != want {
		t.Errorf("Depth of %s: %d, not %d", what, got, want)
	}
	if viewer(true).module(m) != before {
		t.Errorf("%s was changed", what)
	}
}

// nestedBlocks: a function with n blocks round a statement, its own too.
func nestedBlocks(n int, s api.Stmt) api.Module {
	for range n - 1 {
		s = api.Stmt{Kind: api.SIf, E: one(num(1)), Body: []api.Stmt{s}}
	}
	return fnOf(s)
}

func TestDepthOfModules(t *testing.T) {
	sum := bin(api.BAdd, num(1), num(2))
	ret := []api.Stmt{{Kind: api.SReturn}}
	for _, x := range []struct {
		what string
		m    api.Module
		want int
	}{
		{"the zero module", api.Module{}, 0},
		{"a name and imports", api.Module{Name: "m", Imports: []string{"k"}}, 0},
		{"a constant", constOf(num(1)), 0},
		{"a row of marks", constOf(bin(api.BAdd, bin(api.BMul, num(1), num(2)), num(3))), 0},
		{"(1 + 2) * 3", constOf(bin(api.BMul, sum, num(3))), 1},
		{"3 * (1 + 2)", constOf(bin(api.BMul, num(3), sum)), 1},
		{"-(1 + 2)", constOf(un(api.UNeg, sum)), 2},
		{"!x", constOf(un(api.UNot, name("x"))), 1},
		{"!!x", constOf(un(api.UNot, un(api.UNot, name("x")))), 2},
		{"int(1 + 2)", constOf(un(api.UInt, sum)), 1},
		{"-int(1)", constOf(un(api.UNeg, un(api.UInt, num(1)))), 2},
		{"-1 + 2", constOf(bin(api.BAdd, un(api.UNeg, num(1)), num(2))), 1},
		{"f()", constOf(call("f")), 0},
		{"k.f()", constOf(farCall("k", "f")), 0},
		{"f(1)", constOf(call("f", num(1))), 1},
		{"f(1 + 2)", constOf(call("f", sum)), 1},
		{"k.f(f(1), 2)", constOf(farCall("k", "f", call("f", num(1)), num(2))), 2},
		{"k.f(2, f(1))", constOf(farCall("k", "f", num(2), call("f", num(1)))), 2},
		{"an empty function", fnOf(), 1},
		{"a function", fnOf(ret...), 1},
		{"show -1", fnOf(show(un(api.UNeg, num(1)))), 2},
		{"if f(1) {}", fnOf(api.Stmt{Kind: api.SIf, E: one(call("f", num(1)))}), 2},
		{"if -(1 + 2) {}", fnOf(api.Stmt{Kind: api.SIf, E: one(un(api.UNeg, sum))}), 3},
		{"while 1 {}", fnOf(api.Stmt{Kind: api.SWhile, E: one(num(1))}), 2},
		{"try {} catch t {}", fnOf(api.Stmt{Kind: api.STry, Name: "t"}), 2},
		{"try { show -1; } catch t {}", fnOf(api.Stmt{Kind: api.STry, Name: "t", Body: []api.Stmt{show(un(api.UNeg, num(1)))}}), 3},
		{"try {} catch t { try {} catch t {} }", fnOf(api.Stmt{Kind: api.STry, Name: "t", Else: []api.Stmt{{Kind: api.STry, Name: "t"}}}), 3},
		{"else", fnOf(api.Stmt{Kind: api.SIf, E: one(num(1)), Else: []api.Stmt{{Kind: api.SWhile}}}), 3},
		{"40 blocks", nestedBlocks(40, show(num(1))), 40},
		{"the greatest of two", api.Module{Decls: []api.Decl{constOf(un(api.UNeg, sum)).Decls[0], fnOf().Decls[0]}}, 2},
		{"parameters", api.Module{Decls: []api.Decl{{Kind: api.DFn, Params: times(20, api.Param{})}}}, 1},
	} {
		isDepth(t, x.what, x.m, x.want)
		isDepth(t, x.what+" by the model", x.m, modelDepth(x.m))
	}
}

func TestDepthOfWrongModules(t *testing.T) {
	neg := un(api.UNeg, num(1))                 // one deeper
	sum := bin(api.BAdd, num(1), num(2))        // of a low level
	or := bin(api.BOr, name("a"), name("b"))    // of the lowest one
	body := []api.Stmt{show(num(1)), show(neg)} // 1 in it
	decl := func(d api.Decl) api.Module { return api.Module{Decls: []api.Decl{d}} }
	kids := func(kind, op int, l ...api.Expr) api.Module {
		return constOf(api.Expr{Kind: kind, Op: op, Kids: l})
	}
	for _, x := range []struct {
		what string
		m    api.Module
		want int
	}{
		{"no kind of a declaration", decl(api.Decl{}), 0},
		{"no kind, with an empty Body", decl(api.Decl{Kind: 9, Body: []api.Stmt{}}), 0},
		{"no kind, with a Body", decl(api.Decl{Kind: 9, Body: body}), 2},
		{"a constant with a Body", decl(api.Decl{Kind: api.DConst, Body: body[:1]}), 1},
		{"a variable with a Body", decl(api.Decl{Kind: api.DVar, Body: body}), 2},
		{"a constant with an empty Body", decl(api.Decl{Kind: api.DConst, Body: []api.Stmt{}}), 0},
		{"a function with E", decl(api.Decl{Kind: api.DFn, E: one(un(api.UNeg, un(api.UNeg, num(1))))}), 2},
		{"a function with a flat E", decl(api.Decl{Kind: api.DFn, E: one(num(1))}), 1},
		{"many of E", decl(api.Decl{Kind: api.DConst, E: []api.Expr{num(1), num(2), un(api.UInt, neg), num(3)}}), 2},
		{"no kind of a statement", fnOf(api.Stmt{}), 1},
		{"no kind with empty blocks", fnOf(api.Stmt{Kind: 10, Body: []api.Stmt{}, Else: []api.Stmt{}}), 1},
		{"no kind with a Body", fnOf(api.Stmt{Kind: 10, Body: body[:1]}), 2},
		{"no kind with an Else", fnOf(api.Stmt{Kind: -1, Else: body}), 3},
		{"let with a Body", fnOf(api.Stmt{Kind: api.SLet, Body: body[:1]}), 2},
		{"show with an Else", fnOf(api.Stmt{Kind: api.SShow, Else: body}), 3},
		{"return with an empty Body", fnOf(api.Stmt{Kind: api.SReturn, Body: []api.Stmt{}}), 1},
		{"while with an Else", fnOf(api.Stmt{Kind: api.SWhile, Else: body}), 3},
		{"while with an empty Else", fnOf(api.Stmt{Kind: api.SWhile, Else: []api.Stmt{}}), 2},
		{"if with an empty Else", fnOf(api.Stmt{Kind: api.SIf, Else: []api.Stmt{}}), 2},
		{"try with E", fnOf(api.Stmt{Kind: api.STry, E: []api.Expr{num(1), neg, un(api.UNot, neg)}}), 3},
		{"many of E in a statement", fnOf(api.Stmt{Kind: api.SShow, E: []api.Expr{num(1), neg}}), 2},
		{"no kind of an expression", constOf(api.Expr{}), 0},
		{"no kind of an expression with Kids", kids(0, 0, or, sum), 0},
		{"no kind of an expression with a deep one", kids(9, 0, num(1), neg), 1},
		{"no kind in -", constOf(un(api.UNeg, api.Expr{Kids: one(or)})), 1},
		{"a literal with Kids", kids(api.ELit, 0, or, neg), 1},
		{"a name with Kids", kids(api.EName, 0, or), 0},
		{"a far name with Kids", kids(api.EFar, 0, or), 0},
		{"input with Kids", kids(api.EInput, 0, or, un(api.UNeg, neg)), 2},
		{"- of none", kids(api.EUn, api.UNeg), 0},
		{"- of two", kids(api.EUn, api.UNeg, num(1), sum), 2},
		{"! of two", kids(api.EUn, api.UNot, num(1), neg), 2},
		{"int of none", kids(api.EUn, api.UInt), 0},
		{"float of two", kids(api.EUn, api.UFloat, num(1), sum), 1},
		{"no operator of one", kids(api.EUn, 5, or, sum), 0},
		{"no operator of one, 0", kids(api.EUn, 0, neg), 1},
		{"no operator of one in -", constOf(un(api.UNeg, un(-1, or))), 1},
		{"no operator of two", kids(api.EBin, 14, or, or), 0},
		{"no operator of two, 0", kids(api.EBin, 0, or, neg), 1},
		{"no operator of two in *", constOf(bin(api.BMul, bin(99, or, or), num(1))), 0},
		{"+ of none", kids(api.EBin, api.BAdd), 0},
		{"+ of one", kids(api.EBin, api.BAdd, sum), 0},
		{"+ of three", kids(api.EBin, api.BAdd, sum, num(1), num(2)), 0},
		{"+ of three with a sum on the right", kids(api.EBin, api.BAdd, num(1), num(2), sum), 1},
		{"< of three", kids(api.EBin, api.BLt, num(1), num(2), bin(api.BLt, num(1), num(2))), 1},
		{"&& of one ||", kids(api.EBin, api.BAnd, or), 1},
		{"a call with an Op", kids(api.ECall, 1, num(1)), 1},
		{"a far call with an Op", kids(api.EFarCall, 99, neg), 2},
		{"a name with the Op of a sum in *", constOf(bin(api.BMul, api.Expr{Kind: api.EName, Op: api.BAdd}, num(1))), 0},
		{"a name with the Op of - in ..", constOf(bin(api.BMul, api.Expr{Kind: api.EName, Op: api.UNeg}, num(1))), 0},
	} {
		isDepth(t, x.what, x.m, x.want)
		isDepth(t, x.what+" by the model", x.m, modelDepth(x.m))
	}
}

func TestDepthNodesAndUsesAsTheModelSays(t *testing.T) {
	x := mixer(62)
	for range 6000 {
		m := x.spoiled()
		before := viewer(true).module(m)
		if got, want := tree.Depth(m), modelDepth(m); got != want {
			t.Fatalf("Depth of %s: %d, not %d", moduleKey(m), got, want)
		}
		if got, want := tree.Nodes(m), modelNodes(m); got != want {
			t.Fatalf("Nodes of %s: %d, not %d", moduleKey(m), got, want)
		}
		if got, want := tree.Uses(m), modelUses(m); !slices.Equal(got, want) {
			t.Fatalf("Uses of %s: %q, not %q", moduleKey(m), got, want)
		}
		if viewer(true).module(m) != before {
			t.Fatalf("%s was changed", before)
		}
	}
}

// F6.2: Nodes

func TestNodes(t *testing.T) {
	three := []api.Expr{num(1), bin(api.BAdd, num(1), num(2))} // 4 in all
	two := []api.Stmt{{}, {Kind: api.SReturn}}
	for _, x := range []struct {
		what string
		m    api.Module
		want int
	}{
		{"the zero module", api.Module{}, 0},
		{"a name and imports", api.Module{Name: "m", Imports: []string{"k", "l"}}, 0},
		{"a constant", constOf(num(1)), 2},
		{"an empty function", fnOf(), 1},
		{"two parameters", api.Module{Decls: []api.Decl{{Kind: api.DFn, Params: times(2, api.Param{})}}}, 3},
		{"a constant with everything", api.Module{Decls: []api.Decl{{Kind: api.DConst, Params: times(9, api.Param{}), E: three, Body: two}}}, 1 + 9 + 4 + 2},
		{"a statement", fnOf(show(num(1))), 3},
		{"a statement with everything", fnOf(api.Stmt{Kind: api.SShow, E: three, Body: two, Else: two}), 2 + 4 + 4},
		{"no kinds", api.Module{Decls: []api.Decl{{}, {Body: []api.Stmt{{E: []api.Expr{{Kids: times(3, api.Expr{})}}}}}}}, 2 + 1 + 4},
		{"a literal with Kids", constOf(api.Expr{Kind: api.ELit, Kids: three}), 2 + 4},
		{"empty lists", api.Module{Decls: []api.Decl{{Params: []api.Param{}, E: []api.Expr{}, Body: []api.Stmt{}}}}, 1},
		{"a call", constOf(call("f", num(1), un(api.UNeg, num(2)))), 5},
		{"the sample", sample(), 55},
	} {
		if got := tree.Nodes(x.m); got != x.want || modelNodes(x.m) != x.want {
			t.Errorf("Nodes of %s: %d (the model: %d), not %d", x.what, got, modelNodes(x.m), x.want)
		}
	}
}

// F6.2: Uses

func TestUses(t *testing.T) {
	in := func(mod string) api.Expr { return un(api.UNeg, bin(api.BAdd, num(1), call("f", far(mod, "x")))) }
	for _, x := range []struct {
		what string
		m    api.Module
		want []string
	}{
		{"the zero module", api.Module{}, nil},
		{"imports alone", api.Module{Name: "m", Imports: []string{"k"}}, nil},
		{"no far ones", sampleWithout(), nil},
		{"a constant of another module", constOf(far("k", "X")), []string{"k"}},
		{"a function of another module", constOf(farCall("k", "f", num(1))), []string{"k"}},
		{"the same one twice", constOf(bin(api.BAdd, far("k", "X"), farCall("k", "f", far("k", "Y")))), []string{"k"}},
		{"several, out of order", constOf(call("f", far("z", "X"), farCall("a", "f", far("B", "Y")), far("z", "Z"))), []string{"B", "a", "z"}},
		{"deep in blocks", nestedBlocks(5, api.Stmt{Kind: api.STry, Name: "t", Body: []api.Stmt{show(in("b"))}, Else: []api.Stmt{show(in("a")), {Kind: api.SIf, E: one(in("c")), Else: []api.Stmt{show(in("d"))}}}}), []string{"a", "b", "c", "d"}},
		{"several declarations", api.Module{Decls: []api.Decl{constOf(in("q")).Decls[0], fnOf(show(in("p"))).Decls[0]}}, []string{"p", "q"}},
		{"an empty Mod", constOf(call("f", far("", "X"), far("k", "X"))), []string{"", "k"}},
		{"a Mod that is no name", constOf(far("9 9", "X")), []string{"9 9"}},
		{"a Mod of another kind", constOf(api.Expr{Kind: api.EName, Mod: "k", Name: "x"}), nil},
		{"a Mod of no kind", constOf(api.Expr{Mod: "k", Kids: one(far("l", "x"))}), []string{"l"}},
		{"in Kids of a literal", constOf(api.Expr{Kind: api.ELit, Kids: one(far("l", "x"))}), []string{"l"}},
		{"in Kids of a far one", constOf(api.Expr{Kind: api.EFar, Mod: "k", Kids: one(far("l", "x"))}), []string{"k", "l"}},
		{"in a constant's Body", api.Module{Decls: []api.Decl{{Kind: api.DConst, Body: []api.Stmt{{Body: []api.Stmt{{E: one(far("l", "x"))}}}}}}}, []string{"l"}},
	} {
		m := roomy(x.m)
		before := viewer(true).module(m)
		got := tree.Uses(m)
		if !slices.Equal(got, x.want) {
			t.Errorf("Uses of %s: %q, not %q", x.what, got, x.want)
		}
		over(got, "ruined")
		if viewer(true).module(m) != before || !slices.Equal(tree.Uses(m), x.want) {
			t.Errorf("Uses of %s: what is written into it is seen", x.what)
		}
	}
}

// sampleWithout: each kind of everything but of what other modules have.
func sampleWithout() api.Module {
	m := sample()
	m.Decls[2].Body = slices.DeleteFunc(m.Decls[2].Body, func(s api.Stmt) bool {
		return len(s.E) > 0 && (s.E[0].Kind == api.EFar || s.E[0].Kind == api.EFarCall)
	})
	return m
}

// P604

// ownParts: modules of parts of one alone: a declaration, a block of statements, an expression.
func ownParts(m *api.Module) []api.Module {
	var l []api.Module
	p := partsOf(m)
	for _, d := range p.decls {
		l = append(l, api.Module{Decls: []api.Decl{*d}})
	}
	for _, s := range p.stmts {
		// Only what stands in it: as deep as a block of its own at most.
		l = append(l, api.Module{Decls: []api.Decl{{Kind: api.DFn, Body: s.Body}}}, api.Module{Decls: []api.Decl{{Kind: api.DFn, Body: s.Else}}})
	}
	for _, e := range p.exprs {
		l = append(l, constOf(*e))
	}
	return l
}

func TestNodesAndDepthOfParts(t *testing.T) {
	x := mixer(604)
	for range 400 {
		m := x.module()
		nodes, depth := tree.Nodes(m), tree.Depth(m)
		sum := 0
		for _, d := range m.Decls {
			own := api.Module{Decls: []api.Decl{d}}
			sum += tree.Nodes(own)
			kids := 0
			for _, e := range d.E {
				kids += tree.Nodes(constOf(e)) - 1
			}
			for _, s := range d.Body {
				kids += tree.Nodes(fnOf(s)) - 1
			}
			if tree.Nodes(own) != kids+len(d.Params)+1 {
				t.Errorf("Nodes of %s is not one more than its parts'", moduleKey(own))
			}
		}
		if sum != nodes {
			t.Errorf("Nodes of %s: %d, not %d", moduleKey(m), nodes, sum)
		}
		for _, own := range ownParts(&m) {
			if tree.Depth(own) > depth && depth > 0 || tree.Nodes(own) > nodes+1 {
				t.Errorf("a part of %s is deeper or greater: %s", moduleKey(m), moduleKey(own))
			}
		}
	}
}

func TestDepthGrowsByEachBlock(t *testing.T) {
	for n := 1; n < 40; n++ {
		m := nestedBlocks(n, show(num(1)))
		if tree.Depth(m) != n || tree.Nodes(m) != 1+2*n {
			t.Errorf("%d blocks: %d, %d", n, tree.Depth(m), tree.Nodes(m))
		}
	}
}

func TestNoCallMindsOddNumbers(t *testing.T) {
	for _, n := range []int{math.MinInt, -1, 0, 1, 99, math.MaxInt} {
		e := api.Expr{Kind: n, Op: n, Value: api.Value{Type: n, Bits: math.MaxUint64}, Kids: []api.Expr{{Kind: n}, {Kind: api.EUn, Op: n}, {Kind: api.EBin, Op: n}}}
		s := api.Stmt{Kind: n, E: one(e), Body: []api.Stmt{{Kind: n}}, Else: []api.Stmt{{Kind: n}}}
		m := api.Module{Name: "m", Decls: []api.Decl{{Kind: n, Type: n, E: one(e), Params: []api.Param{{Type: n}}, Body: []api.Stmt{s}}}}
		if got := fmt.Sprint(tree.Right(m), tree.Nodes(m), tree.Depth(m), len(tree.Uses(m)), tree.Same(m, tree.Copy(m))); got != fmt.Sprint(modelRight(m), modelNodes(m), modelDepth(m), len(modelUses(m)), true) {
			t.Errorf("odd numbers: %s", got)
		}
	}
}
