package tree_test

import (
	"fmt"
	"slices"
	"strings"
	"testing"

	"foundry/api"
	"foundry/floats"
	"foundry/lex"
	"foundry/tree"
)

func isText(t *testing.T, e api.Expr, want string) {
	t.Helper()
	e = roomyExpr(e)
	before := viewer(true).expr(e)
	if s, code := tree.Text(e); s != want || code != api.OK {
		t.Errorf("Text of %s: %q, %d, not %q", exprKey(e), s, code, want)
	}
	if viewer(true).expr(e) != before {
		t.Errorf("%s was changed", before)
	}
}

// isPrinted fails unless Print of m is these lines.
func isPrinted(t *testing.T, m api.Module, lines ...string) {
	t.Helper()
	m = roomy(m)
	before := viewer(true).module(m)
	want := strings.Join(lines, "\n") + "\n"
	if s, e := tree.Print(m); s != want || e != api.OK {
		t.Errorf("Print of %s: %d\n%s\nnot\n%s", moduleKey(m), e, s, want)
	}
	if viewer(true).module(m) != before {
		t.Errorf("%s was changed", before)
	}
}

// isPrintedIn fails unless Print of a function of these statements has these lines in it.
func isPrintedIn(t *testing.T, s api.Stmt, lines ...string) {
	t.Helper()
	all := append([]string{"module m;", "fn f() {"}, lines...)
	isPrinted(t, fnOf(s), append(all, "}")...)
}

// F6.3: Text

func TestTextOfEachKind(t *testing.T) {
	isText(t, name("x"), "x")
	isText(t, far("k", "X"), "k.X")
	isText(t, input(), "input")
	isText(t, call("f"), "f()")
	isText(t, call("f", num(1)), "f(1)")
	isText(t, call("f", num(1), name("b"), input()), "f(1, b, input)")
	isText(t, farCall("k", "f"), "k.f()")
	isText(t, farCall("k", "f", bin(api.BOr, name("a"), name("b")), un(api.UNeg, num(2))), "k.f(a || b, -2)")
	isText(t, call("f", call("g", call("h"))), "f(g(h()))")
	isText(t, un(api.UNeg, name("x")), "-x")
	isText(t, un(api.UNot, name("x")), "!x")
	isText(t, un(api.UInt, name("x")), "int(x)")
	isText(t, un(api.UFloat, bin(api.BOr, name("a"), name("b"))), "float(a || b)")
	isText(t, call("f", times(8, num(7))...), "f(7, 7, 7, 7, 7, 7, 7, 7)")
	isText(t, name(long(32)), long(32))
}

func TestTextOfLiterals(t *testing.T) {
	for _, x := range []struct {
		e    api.Expr
		want string
	}{
		{num(0), "0"}, {num(1), "1"}, {num(10), "10"}, {num(1<<63 - 1), "9223372036854775807"},
		{lit(api.TBool, 0), "false"}, {lit(api.TBool, 1), "true"},
		{lit(api.TFloat, 0), "0x0p+0"}, {lit(api.TFloat, 1), "0x1p-1074"}, {lit(api.TFloat, 0x3ff0000000000000), "0x1p+0"}, {lit(api.TFloat, 0x3ff8000000000000), "0x1.8p+0"},
		{lit(api.TFloat, 0x3fb999999999999a), "0x1.999999999999ap-4"}, {lit(api.TFloat, infinity-1), "0x1.fffffffffffffp+1023"},
		{lit(api.TFloat, infinity), "inf"}, {lit(api.TFloat, floats.NaN), "nan"},
	} {
		isText(t, x.e, x.want)
		isText(t, un(api.UNeg, x.e), "-"+x.want)
		isText(t, bin(api.BAdd, x.e, x.e), x.want+" + "+x.want)
		if modelValue(x.e.Value) != x.want {
			t.Errorf("the model's value: %s, not %s", modelValue(x.e.Value), x.want)
		}
	}
}

func TestTextOfEachOperatorInEachOther(t *testing.T) {
	a, b, c := name("a"), name("b"), name("c")
	for o, outer := range marks() {
		isText(t, bin(o+1, a, b), "a "+outer+" b")
		for i, inner := range marks() {
			own, low := levels()[o+1], levels()[i+1]
			left, right := fmt.Sprintf("a %s b", inner), fmt.Sprintf("b %s c", inner)
			if low < own || own == 3 && low == 3 {
				left = "(" + left + ")"
			}
			if low <= own {
				right = "(" + right + ")"
			}
			isText(t, bin(o+1, bin(i+1, a, b), c), left+" "+outer+" c")
			isText(t, bin(o+1, a, bin(i+1, b, c)), "a "+outer+" "+right)
			isText(t, bin(o+1, bin(i+1, a, b), bin(i+1, b, c)), left+" "+outer+" "+right)
		}
	}
}

func TestTextOfOperatorsOfOneInOthers(t *testing.T) {
	a, b := name("a"), name("b")
	ahead, behind := []string{"-", "!", "int(", "float("}, []string{"", "", ")", ")"}
	for o := range ahead {
		for i := range ahead {
			isText(t, un(o+1, un(i+1, a)), ahead[o]+ahead[i]+"a"+behind[i]+behind[o])
		}
		for i, mark := range marks() {
			two := "a " + mark + " b"
			if o < 2 {
				two = "(" + two + ")"
			}
			isText(t, un(o+1, bin(i+1, a, b)), ahead[o]+two+behind[o])
			isText(t, bin(i+1, un(o+1, a), b), ahead[o]+"a"+behind[o]+" "+mark+" b")
			isText(t, bin(i+1, a, un(o+1, b)), "a "+mark+" "+ahead[o]+"b"+behind[o])
			isText(t, call("f", bin(i+1, a, b), un(o+1, a)), "f(a "+mark+" b, "+ahead[o]+"a"+behind[o]+")")
		}
	}
	for _, e := range []api.Expr{num(1), a, far("k", "X"), call("f"), farCall("k", "f", a), input()} {
		s, _ := tree.Text(e)
		isText(t, un(api.UNeg, e), "-"+s)
		isText(t, bin(api.BMul, e, e), s+" * "+s)
	}
}

func TestTextOfLongRows(t *testing.T) {
	e := name("x")
	for range 30000 {
		e = bin(api.BSub, e, num(1))
	}
	if s, code := tree.Text(e); s != "x"+strings.Repeat(" - 1", 30000) || code != api.OK {
		t.Errorf("Text of a long row: %d bytes, %d", len(s), code)
	}
	isText(t, nested(nests()["-"], 32), strings.Repeat("-", 32)+"x")
	isText(t, nested(nests()["1 - (1 - ..)"], 33), strings.Repeat("1 - (", 32)+"1 - x"+strings.Repeat(")", 32))
}

func TestTextTellsWhatIsWrong(t *testing.T) {
	for _, x := range []struct {
		e    api.Expr
		want api.Errno
	}{
		{api.Expr{}, api.ErrArg}, {num(1 << 63), api.ErrArg}, {name(""), api.ErrName}, {name("if"), api.ErrName}, {name(long(33)), api.ErrBig},
		{call("f", times(9, num(1))...), api.ErrBig}, {nested(nests()["-"], 33), api.ErrDeep}, {un(5, num(1)), api.ErrArg}, {bin(0, num(1), num(1)), api.ErrArg},
	} {
		if s, e := tree.Text(x.e); s != "" || e != x.want {
			t.Errorf("Text of %s: %q, %d, not %d", exprKey(x.e), s, e, x.want)
		}
	}
}

func TestTextAsTheModelSays(t *testing.T) {
	x := mixer(63)
	for range 8000 {
		e := x.expr(x.below(20))
		want, code := modelText(e, 1), modelRightExpr(e)
		if code != api.OK {
			want = ""
		}
		if s, got := tree.Text(e); s != want || got != code {
			t.Fatalf("Text of %s: %q, %d, not %q, %d", exprKey(e), s, got, want, code)
		}
	}
}

// F6.3: Print

func TestPrintOfDeclarations(t *testing.T) {
	isPrinted(t, api.Module{Name: "m"}, "module m;")
	isPrinted(t, api.Module{Name: "main", Imports: []string{"k", "b", "k"}}, "module main;", "import k;", "import b;", "import k;")
	types := []string{"", ": int", ": float", ": bool"}
	for typ := api.TInt; typ <= api.TBool; typ++ {
		isPrinted(t, api.Module{Name: "m", Decls: []api.Decl{
			{Kind: api.DConst, Name: "C", Type: typ, E: one(num(1))},
			{Kind: api.DConst, Export: true, Name: "D", Type: typ, E: one(bin(api.BOr, name("a"), name("b")))},
			{Kind: api.DVar, Name: "v", Type: typ, E: one(un(api.UNeg, num(2)))},
		}}, "module m;", "const C"+types[typ]+" = 1;", "export const D"+types[typ]+" = a || b;", "var v"+types[typ]+" = -2;")
	}
	for typ := api.TNone; typ <= api.TBool; typ++ {
		isPrinted(t, api.Module{Name: "m", Decls: []api.Decl{
			{Kind: api.DFn, Name: "f", Type: typ},
			{Kind: api.DFn, Export: true, Name: "g", Type: typ, Params: []api.Param{{Name: "a", Type: api.TInt}}},
			{Kind: api.DFn, Name: "h", Type: typ, Params: []api.Param{{Name: "a", Type: api.TInt}, {Name: "b", Type: api.TFloat}, {Name: "c", Type: api.TBool}}, Body: []api.Stmt{{Kind: api.SReturn}}},
		}}, "module m;", "fn f()"+types[typ]+" {", "}", "export fn g(a: int)"+types[typ]+" {", "}", "fn h(a: int, b: float, c: bool)"+types[typ]+" {", "  return;", "}")
	}
}

func TestPrintOfStatements(t *testing.T) {
	or := bin(api.BOr, name("a"), name("b"))
	isPrintedIn(t, api.Stmt{Kind: api.SLet, Name: "x", E: one(or)}, "  let x = a || b;")
	isPrintedIn(t, api.Stmt{Kind: api.SSet, Name: "x", E: one(or)}, "  x = a || b;")
	isPrintedIn(t, api.Stmt{Kind: api.SReturn}, "  return;")
	isPrintedIn(t, api.Stmt{Kind: api.SReturn, E: one(or)}, "  return a || b;")
	isPrintedIn(t, show(or), "  show a || b;")
	isPrintedIn(t, api.Stmt{Kind: api.SFail, E: one(or)}, "  fail a || b;")
	isPrintedIn(t, api.Stmt{Kind: api.SDo, E: one(call("f", or))}, "  f(a || b);")
	isPrintedIn(t, api.Stmt{Kind: api.SDo, E: one(farCall("k", "f"))}, "  k.f();")
	one1, two := []api.Stmt{show(num(1))}, []api.Stmt{show(num(2)), {Kind: api.SReturn}}
	isPrintedIn(t, api.Stmt{Kind: api.SIf, E: one(or)}, "  if a || b {", "  }")
	isPrintedIn(t, api.Stmt{Kind: api.SIf, E: one(or), Body: one1}, "  if a || b {", "    show 1;", "  }")
	isPrintedIn(t, api.Stmt{Kind: api.SIf, E: one(or), Else: one1}, "  if a || b {", "  } else {", "    show 1;", "  }")
	isPrintedIn(t, api.Stmt{Kind: api.SIf, E: one(or), Body: one1, Else: two}, "  if a || b {", "    show 1;", "  } else {", "    show 2;", "    return;", "  }")
	isPrintedIn(t, api.Stmt{Kind: api.SWhile, E: one(or)}, "  while a || b {", "  }")
	isPrintedIn(t, api.Stmt{Kind: api.SWhile, E: one(or), Body: two}, "  while a || b {", "    show 2;", "    return;", "  }")
	isPrintedIn(t, api.Stmt{Kind: api.STry, Name: "t"}, "  try {", "  } catch t {", "  }")
	isPrintedIn(t, api.Stmt{Kind: api.STry, Name: "t", Body: one1}, "  try {", "    show 1;", "  } catch t {", "  }")
	isPrintedIn(t, api.Stmt{Kind: api.STry, Name: "t", Body: one1, Else: two}, "  try {", "    show 1;", "  } catch t {", "    show 2;", "    return;", "  }")
}

func TestPrintOfBlocksInBlocks(t *testing.T) {
	in := []api.Stmt{{Kind: api.SWhile, E: one(name("b")), Body: []api.Stmt{{Kind: api.STry, Name: "t", Body: []api.Stmt{{Kind: api.SIf, E: one(name("c")), Else: []api.Stmt{show(num(1))}}}, Else: []api.Stmt{show(num(2))}}}}}
	isPrintedIn(t, api.Stmt{Kind: api.SIf, E: one(name("a")), Body: in, Else: in},
		"  if a {", "    while b {", "      try {", "        if c {", "        } else {", "          show 1;", "        }", "      } catch t {", "        show 2;", "      }", "    }",
		"  } else {", "    while b {", "      try {", "        if c {", "        } else {", "          show 1;", "        }", "      } catch t {", "        show 2;", "      }", "    }", "  }")
	want := []string{}
	for n := 1; n < 32; n++ {
		want = append(want, strings.Repeat("  ", n)+"if 1 {")
	}
	want = append(want, strings.Repeat("  ", 32)+"show 1;")
	for n := 31; n > 0; n-- {
		want = append(want, strings.Repeat("  ", n)+"}")
	}
	m := nestedBlocks(32, show(num(1)))
	isPrinted(t, m, slices.Concat([]string{"module m;", "fn f() {"}, want, []string{"}"})...)
}

func TestPrintTellsWhatIsWrong(t *testing.T) {
	for _, v := range variants(sample()) {
		s, e := tree.Print(v)
		if want := modelRight(v); e != want || (s != "") != (want == api.OK) {
			t.Errorf("Print of %s: %q, %d, not %d", moduleKey(v), s, e, want)
		}
	}
}

// F6.3: Print's ErrBig

func isBig(t *testing.T, what string, m api.Module, want api.Errno) {
	t.Helper()
	if e := tree.Right(m); e != api.OK {
		t.Fatalf("%s is not right: %d", what, e)
	}
	s, e := tree.Print(m)
	if e != want || (s != "") != (want == api.OK) {
		t.Errorf("Print of %s: %d bytes, %d, not %d", what, len(s), e, want)
	}
}

func TestPrintAtMaxText(t *testing.T) {
	// Two lines ahead have 19 bytes, the one behind 2, and each `  show NAME;` 9 more than its name.
	lines := times(99, show(name(long(32))))
	left := api.MaxText - 19 - 2 - 99*(32+9) - 9
	for more, want := range map[int]api.Errno{-1: api.OK, 0: api.OK, 1: api.ErrBig, 2: api.ErrBig, 20: api.ErrBig} {
		m := fnOf(append(slices.Clone(lines), show(name(long(left+more))))...)
		if got := len(modelPrint(m)); got != api.MaxText+more {
			t.Fatalf("the text has %d bytes", got)
		}
		isBig(t, fmt.Sprint("a text of ", api.MaxText+more, " bytes"), m, want)
	}
	isBig(t, "a very long text", fnOf(times(100000, show(num(1)))...), api.ErrBig)
}

func TestPrintAtMaxTokens(t *testing.T) {
	for marks := 500; marks < 516; marks++ {
		for _, minus := range []int{0, 1} {
			e := name("x")
			for range minus {
				e = un(api.UNeg, e)
			}
			for range marks {
				e = bin(api.BAdd, e, num(1))
			}
			// module m ; const C : int = x ;
			tokens, want := 3+5+1+1+minus+2*marks, api.OK
			if tokens > api.MaxTokens {
				want = api.ErrBig
			}
			m := constOf(e)
			if got := len(modelPrint(m)); got > api.MaxText {
				t.Fatalf("the text has %d bytes", got)
			}
			isBig(t, fmt.Sprint("a text of ", tokens, " tokens"), m, want)
		}
	}
}

// P601

func TestPrintIsReadBack(t *testing.T) {
	x := mixer(601)
	printed := 0
	for range 4000 {
		m := x.module()
		s, e := tree.Print(m)
		if e != api.OK {
			if e != api.ErrBig || s != "" {
				t.Fatalf("Print of %s: %q, %d", moduleKey(m), s, e)
			}
			continue
		}
		printed++
		if want := modelPrint(m); s != want {
			t.Fatalf("Print of %s:\n%s\nnot\n%s", moduleKey(m), s, want)
		}
		if _, at, e := lex.Lex(s); e != api.OK {
			t.Fatalf("%q: %d at %d", s, e, at)
		}
		back, r := readModule(s)
		if moduleKey(back) != moduleKey(m) || !tree.Same(back, m) {
			t.Fatalf("%q is read as %s, not %s", s, moduleKey(back), moduleKey(m))
		}
		if tree.Depth(m) != r.top {
			t.Fatalf("Depth of %s: %d, but in the text %d", moduleKey(m), tree.Depth(m), r.top)
		}
		slices.Sort(r.mods)
		if got, want := tree.Uses(m), slices.Compact(r.mods); !slices.Equal(got, want) {
			t.Fatalf("Uses of %s: %q, but in the text %q", moduleKey(m), got, want)
		}
	}
	if printed < 2000 {
		t.Errorf("only %d are short enough", printed)
	}
}

func TestUnlikeModulesHaveUnlikeTexts(t *testing.T) {
	x := mixer(6010)
	bases := []api.Module{sample(), longModule(), {Name: "m"}}
	for range 25 {
		bases = append(bases, x.module())
	}
	for _, m := range bases {
		texts := map[string]string{}
		for _, v := range append(variants(m), m, roomy(m)) {
			s, e := tree.Print(v)
			if e != api.OK {
				continue
			}
			if old, there := texts[s]; there && old != moduleKey(v) {
				t.Errorf("%s and %s have one text", old, moduleKey(v))
			}
			if again, _ := tree.Print(tree.Copy(v)); again != s {
				t.Errorf("a copy of %s has another text", moduleKey(v))
			}
			texts[s] = moduleKey(v)
		}
	}
}

// The chapter's examples

func TestExamples(t *testing.T) {
	a, b, c, n1, n2, n3 := name("a"), name("b"), name("c"), num(1), num(2), num(3)
	isText(t, bin(api.BMul, bin(api.BAdd, n1, n2), n3), "(1 + 2) * 3")
	isText(t, bin(api.BAdd, n1, bin(api.BMul, n2, n3)), "1 + 2 * 3")
	isText(t, bin(api.BSub, n1, bin(api.BSub, n2, n3)), "1 - (2 - 3)")
	isText(t, bin(api.BLt, bin(api.BLt, a, b), c), "(a < b) < c")
	isText(t, un(api.UNeg, un(api.UNeg, name("x"))), "--x")
	isText(t, un(api.UNot, bin(api.BAnd, a, b)), "!(a && b)")
	isText(t, un(api.UInt, bin(api.BAdd, a, b)), "int(a + b)")
	isText(t, lit(api.TFloat, 0x3ff8000000000000), "0x1.8p+0")
	if s, e := tree.Text(num(1 << 63)); s != "" || e != api.ErrArg {
		t.Errorf("Text of 2^63: %q, %d", s, e)
	}
	isPrinted(t, api.Module{Name: "m", Imports: []string{"k"}, Decls: []api.Decl{{Kind: api.DConst, Export: true, Name: "X", Type: api.TInt, E: one(bin(api.BAdd, far("k", "Y"), n1))}}},
		"module m;", "import k;", "export const X: int = k.Y + 1;")
	f := api.Module{Name: "m", Decls: []api.Decl{{Kind: api.DFn, Name: "f", Type: api.TInt, Params: []api.Param{{Name: "a", Type: api.TInt}}, Body: []api.Stmt{{Kind: api.SReturn, E: one(a)}}}}}
	isPrinted(t, f, "module m;", "fn f(a: int): int {", "  return a;", "}")
	isDepth(t, "the function's module", f, 1)
	isDepth(t, "the constant -(1 + 2)", constOf(un(api.UNeg, bin(api.BAdd, n1, n2))), 2)
}
