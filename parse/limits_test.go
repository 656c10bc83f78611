package parse_test

import (
	"fmt"
	"slices"
	"strings"
	"testing"

	"foundry/api"
	"foundry/parse"
)

// P701: the depth

// nest: what is written ahead of something to have it one deeper, and behind it. The mark `^` stands at the token that opens.
type nest struct{ ahead, behind string }

// exprNests: the ways in which an expression may be one deeper, each of which may stand in each other.
func exprNests() []nest {
	return []nest{{"^(", ")"}, {"f^(", ")"}, {"k.f^(", ")"}, {"f^(1, ", ")"}, {"f^(", ", 2)"}, {"int^(", ")"}, {"float^(", ")"}, {"^-", ""}, {"^!", ""}}
}

// ruggedNests: the same with something beside them; only in themselves.
func ruggedNests() []nest {
	return []nest{{"1 + ^(", ")"}, {"^(", ") * 2"}, {"a < ^(", ")"}, {"a && f^(", ")"}, {"^- ", " - 1"}, {"f() - ^(1 - ", ")"}, {"1 - f^(1, ", ")"}, {"a || int^(", " - 1)"}}
}

// blockNests: the same of statements.
func blockNests() []nest {
	return []nest{
		{"if a ^{ ", " }"}, {"if a ^{ } else { ", " }"}, {"while a ^{ ", " }"}, {"try ^{ ", " } catch x { }"}, {"try ^{ } catch x { ", " }"},
		{"show 1; if ^-a == (b) { ", " } show 2;"}, {"if f() ^{ ", " } else { show 1; }"},
	}
}

// nested: the inner text in n of these, one after the other.
func nested(n int, inner string, l ...nest) string {
	s := opened(n, l...) + inner
	for i := range n {
		s += l[(n-1-i)%len(l)].behind
	}
	return s
}

// opened: what is written ahead in n of these.
func opened(n int, l ...nest) string {
	s := ""
	for i := range n {
		s += plain(l[i%len(l)].ahead)
	}
	return s
}

// turns: each of them by itself, and all of them mixed, from each on.
func turns(l []nest) [][]nest {
	var all [][]nest
	for i, x := range l {
		all = append(all, []nest{x}, append(slices.Clone(l[i:]), l[:i]...))
	}
	return all
}

// plain: without the mark.
func plain(s string) string {
	return strings.ReplaceAll(s, "^", "")
}

// inBlocks: a module with the inner text in n blocks, the function's own too.
func inBlocks(n int, inner string) string {
	return "module m; fn f() {" + nested(n-1, inner, blockNests()[0]) + "}"
}

func isTaken(t *testing.T, text string) {
	t.Helper()
	if m, at, e := parse.Parse(text); same(m, api.Module{}) || at != 0 || e != api.OK {
		t.Errorf("%q: %d, %d", text, at, e)
	}
}

func isTakenExpr(t *testing.T, text string) {
	t.Helper()
	if x, at, e := parse.Expr(text); same(x, api.Expr{}) || at != 0 || e != api.OK {
		t.Errorf("%q: %d, %d", text, at, e)
	}
}

func TestExprsNestedDeep(t *testing.T) {
	all := turns(exprNests())
	for _, x := range ruggedNests() {
		all = append(all, []nest{x})
	}
	for _, ways := range all {
		last := ways[32%len(ways)]
		isTakenExpr(t, nested(32, "x", ways...))
		isTaken(t, "module m; const C: int = "+nested(32, "x", ways...)+";")
		wrongExpr(t, api.ErrDeep, nested(32, last.ahead+"x"+last.behind, ways...))
		wrongExpr(t, api.ErrDeep, opened(32, ways...)+last.ahead)
		wrongExpr(t, api.ErrDeep, opened(32, ways...)+last.ahead+opened(32, ways...))
		for depth := 1; depth <= 32; depth++ {
			last := ways[(32-depth)%len(ways)]
			isTaken(t, inBlocks(depth, "show "+nested(32-depth, "x", ways...)+";"))
			wrongModule(t, api.ErrDeep, inBlocks(depth, "show "+nested(32-depth, last.ahead+"x"+last.behind, ways...)+";"))
		}
	}
}

func TestBlocksNestedDeep(t *testing.T) {
	for _, ways := range turns(blockNests()) {
		for _, inner := range []string{"", "show 1;", "return; return;", "f();", "k.f();", "let x = f();"} {
			isTaken(t, "module m; fn f() { "+nested(30, "if a { "+inner+" } else { "+inner+" }", ways...)+" }")
		}
		last := ways[31%len(ways)]
		wrongModule(t, api.ErrDeep, "module m; fn f() { "+nested(31, last.ahead+last.behind, ways...)+" }")
		wrongModule(t, api.ErrDeep, "module m; fn f() { "+opened(31, ways...)+last.ahead)
		wrongModule(t, api.ErrDeep, "module m; fn f() { "+opened(31, ways...)+last.ahead+opened(31, ways...))
	}
}

func TestStatementsAtTheGreatestDepth(t *testing.T) {
	for _, x := range []string{
		"let a = 1 + b * c;", "a = b == c || d;", "return;", "return a;", "show k.X;", "fail input;", "f();", "k.f();", "show f() + k.f();", "f ( ) ;", "f(// a remark\n);",
	} {
		isTaken(t, inBlocks(32, x))
	}
	for _, marked := range []string{
		"if a ^{ }", "while a ^{ }", "try ^{ } catch x { }", "f^(1);", "k.f^(1);", "let a = ^-1;", "a = 1 - ^(b);", "return ^!a;", "show int^(a);", "fail float^(a);", "show f^(g());", "f() ;f^(a)",
		"if ^-a { }", "while f^(a) { }", "if a + f() ^{ }",
	} {
		wrongModule(t, api.ErrDeep, inBlocks(32, marked))
	}
	isTaken(t, inBlocks(31, "if -a == f(b) { } else { } try { } catch x { } f(1, 2); show -1; show (1);"))
}

func TestDepthEndsWhereItsPartEnds(t *testing.T) {
	deep := nested(32, "x", exprNests()[0])
	isTakenExpr(t, deep+" + "+deep)
	isTakenExpr(t, "(1) + f(1) - -1 * int(1) "+strings.Repeat("&& !a ", 40)+"|| "+deep)
	isTakenExpr(t, nested(32, "x", nest{"-", ""})+" + "+nested(32, "x", nest{"!", ""}))
	isTakenExpr(t, "f("+nested(31, "x", exprNests()[7])+", "+nested(31, "x", exprNests()[1])+")")
	isTaken(t, "module m; const A: int = "+deep+"; fn f() {"+nested(31, "", blockNests()[0])+nested(31, "show 1;", blockNests()[3])+"} var v: int = "+deep+";")
	isTaken(t, "module m; "+strings.Repeat("fn f() { } ", 40)+"const A: int = "+deep+";")
	wrongExpr(t, api.ErrDeep, deep+" + "+nested(32, "^(x)", exprNests()[0]))
}

func TestWhatOpensNothing(t *testing.T) {
	// Of a call with nothing in it, at the greatest depth, and of a function's parameters.
	for _, s := range []string{"f()", "k.f()", "f( )", "f ( // a remark\n )", "f() + g()", "1 - f()"} {
		isTakenExpr(t, nested(32, s, exprNests()[0]))
		isTakenExpr(t, nested(32, s, exprNests()[1]))
	}
	isTakenExpr(t, nested(31, "-f()", exprNests()[5]))
	isTaken(t, "module m; fn f(a: int, b: int) { "+nested(31, "show 1;", blockNests()[0])+" }")
	isTaken(t, "module m; fn f() { "+nested(31, "f();", blockNests()[0])+" }")
	// A minus between two opens nothing, nor does a sign that stands in a comparison's mark.
	isTakenExpr(t, nested(32, "1 - 2 - x - f() - 3", exprNests()[0]))
	isTakenExpr(t, nested(32, "a != b", exprNests()[0]))
	// With anything else behind it, it opens, and so does that of int and float with nothing in it.
	for _, marked := range []string{"f^(1)", "f^(", "f^(;", "f^(,)", "f^(1", "k.f^(", "k.f^(module", "f^(f())", "int^()", "int^(", "float^()", "^()", "^("} {
		wrongExpr(t, api.ErrDeep, opened(32, exprNests()[0])+marked)
	}
}

// P701: how many

// list: n texts, each with its number in it, with something between.
func list(n int, form, between string) string {
	var l []string
	for i := range n {
		l = append(l, fmt.Sprintf(form, i))
	}
	return strings.Join(l, between)
}

func TestImportsAtTheirLimit(t *testing.T) {
	most := "module m; " + list(16, "import k%d;", " ")
	isTaken(t, most)
	isTaken(t, most+"const A: int = 1;")
	if m, _, _ := parse.Parse(most); len(m.Imports) != 16 || m.Imports[15] != "k15" {
		t.Errorf("16 imports: %q", m.Imports)
	}
	for _, more := range []string{"import k;", "import k; import l;", "import", "import 1", "import ; )", "import k, l;", "import k; module"} {
		wrongModule(t, api.ErrBig, most+" ^"+more)
	}
	wrongModule(t, api.ErrSyntax, most+" ^x")
	wrongModule(t, api.ErrSyntax, most+" ^;")
	wrongModule(t, api.ErrSyntax, most+" const A: int = 1; ^import k;")
	wrongModule(t, api.ErrSyntax, "module m; "+list(15, "import k%d;", " ")+"import k ^import l; import l;")
}

func TestDeclarationsAtTheirLimit(t *testing.T) {
	for _, form := range []string{"const A%d:int=1;", "export const A%d: int = 1;", "var v%d: bool = true;", "fn f%d() { }", "export fn f%d() { }"} {
		most := "module m; " + list(64, form, " ")
		isTaken(t, most)
		if m, _, _ := parse.Parse(most); len(m.Decls) != 64 || !strings.HasSuffix(m.Decls[63].Name, "63") {
			t.Errorf("64 declarations: %+v", m.Decls)
		}
		for _, more := range []string{"const A: int = 1;", "export const A: int = 1;", "var v: int = 1;", "fn f() { }", "export fn f() { }", "export", "export var", "export 1", "const", "fn )", "var v: int = f(1,2,3,4,5,6,7,8,9);"} {
			wrongModule(t, api.ErrBig, most+" ^"+more)
		}
		for _, other := range []string{"import k;", "x", ";", "}", "module", "1", "let", "{", "(", "-"} {
			wrongModule(t, api.ErrSyntax, most+" ^"+other)
		}
		wrongModule(t, api.ErrSyntax, "module m; "+list(63, form, " ")+" export ^var v: int = 1; var v: int = 1;")
	}
}

func TestStatementsHaveNoLimit(t *testing.T) {
	isBody(t, strings.Repeat("show 1;", 300), slices.Repeat([]api.Stmt{show(1)}, 300)...)
}

func TestParametersAtTheirLimit(t *testing.T) {
	most := "module m; fn f(" + list(8, "p%d: int", ", ")
	isTaken(t, most+") { }")
	if m, _, _ := parse.Parse(most + ") { }"); len(m.Decls[0].Params) != 8 || m.Decls[0].Params[7].Name != "p7" {
		t.Errorf("8 parameters: %+v", m.Decls[0].Params)
	}
	for _, more := range []string{"p: int) { }", "p: int, q: int) { }", "p", "p)", "p:", "p: p", "p + 1", "p: int"} {
		wrongModule(t, api.ErrBig, most+", ^"+more)
	}
	for _, other := range []string{"", ")", ",", "int", "1", "(", "-", ": int"} {
		wrongModule(t, api.ErrSyntax, most+", ^"+other)
	}
	wrongModule(t, api.ErrSyntax, most+" ^p: int) { }")
	// Each function has its own.
	isTaken(t, most+") { } "+most[10:]+"): int { }")
}

func TestArgumentsAtTheirLimit(t *testing.T) {
	for _, form := range []string{"%d", "a%d", "-%d", "(%d)", "f(%d)", "f(1, 2, 3, %d)", "k.a%d", "int(%d)", "a + %d * b", "f%d()"} {
		for _, name := range []string{"f", "k.f"} {
			most := name + "(" + list(8, form, ", ")
			isTakenExpr(t, most+")")
			isTaken(t, "module m; fn f() { "+most+"); }")
			if e, _, _ := parse.Expr(most + ")"); len(e.Kids) != 8 {
				t.Errorf("%s): %d arguments", most, len(e.Kids))
			}
			for _, more := range []string{"9)", "x)", "x", "-1)", "!", "- -", "(1))", "(", "()", "k.", "k.x, 1)", "f(1)", "f(", "int(1))", "int", "float)", "true)", "inf", "nan", "input", "1.5", "9, 9)", "9 9", "f(1,2,3,4,5,6,7,8,9))"} {
				wrongExpr(t, api.ErrBig, most+", ^"+more)
				wrongBody(t, api.ErrBig, most+", ^"+more)
			}
			for _, other := range []string{"", ")", ",", ";", "*", ".", "bool", "let", "=", "{"} {
				wrongExpr(t, api.ErrSyntax, most+", ^"+other)
				wrongBody(t, api.ErrSyntax, most+", ^"+other)
			}
			wrongExpr(t, api.ErrSyntax, most+" ^9)")
		}
	}
}

func TestArgumentsOfCallsInOneAnother(t *testing.T) {
	eight := list(8, "%d", ", ")
	isTakenExpr(t, "f(g("+eight+"), g("+eight+"), "+list(6, "%d", ",")+")")
	isTakenExpr(t, "f("+list(7, "g("+eight[:1]+", %d)", ", ")+", g("+eight+"))")
	wrongExpr(t, api.ErrBig, "f(g("+eight+", ^8), 1)")
	wrongExpr(t, api.ErrBig, "f(1, g("+eight+"), g("+eight+", ^8), 1,2,3,4,5,6,7)")
	wrongExpr(t, api.ErrBig, "f("+eight+", ^g("+eight+", 8))")
	wrongExpr(t, api.ErrSyntax, "int("+eight[:1]+"^, 2, 3, 4, 5, 6, 7, 8, 9)")
}

// P701: which of several

func TestTheLeastPlaceCounts(t *testing.T) {
	eight := "f(1, 2, 3, 4, 5, 6, 7, 8"
	deep := nested(32, "(x)", exprNests()[0])
	marked := nested(32, "^(x)", exprNests()[0])
	// Two at unlike places: either way round.
	wrongExpr(t, api.ErrDeep, marked+" "+eight+", 9) *")
	wrongExpr(t, api.ErrDeep, marked+" + "+eight+", 9)")
	wrongExpr(t, api.ErrDeep, marked+" 1 2")
	wrongExpr(t, api.ErrDeep, strings.TrimRight(marked, ")"))
	wrongExpr(t, api.ErrBig, eight+", ^9) + "+deep)
	wrongExpr(t, api.ErrBig, eight+", ^9 9)")
	wrongExpr(t, api.ErrBig, eight+", ^f("+deep+"))")
	wrongExpr(t, api.ErrSyntax, "1 ^2 + "+deep)
	wrongExpr(t, api.ErrSyntax, "^* "+eight+", 9)")
	wrongExpr(t, api.ErrSyntax, eight+" ^9, 9)")
	wrongModule(t, api.ErrSyntax, "module m; import ^1; "+list(17, "import k%d;", " "))
	wrongModule(t, api.ErrBig, "module m; "+list(16, "import k%d;", " ")+"^import k; const A: int = "+deep+"; )")
	wrongModule(t, api.ErrDeep, "module m; const A: int = "+marked+"; "+list(64, "var v%d:int=1;", ""))
	wrongModule(t, api.ErrBig, "module m; fn f("+list(8, "p%d: int", ", ")+", ^p: int) { show "+deep+"; }")
	wrongModule(t, api.ErrBig, "module m; "+list(64, "var v%d:int=1;", "")+" ^const A: int = "+deep+";")
}

func TestErrorsAtOnePlace(t *testing.T) {
	eight := "f(1, 2, 3, 4, 5, 6, 7, 8, "
	at := func(n int, s string) string { return nested(n, s, exprNests()[0]) }
	// The ninth argument of a call whose arguments are as deep as there may be.
	for _, opens := range []string{"^(x)", "^-x", "^!x", "^(", "^-", "^(-)", "^!)"} {
		wrongExpr(t, api.ErrDeep, at(31, eight+opens+")"))
		wrongExpr(t, api.ErrBig, at(30, eight+opens+")"))
		wrongModule(t, api.ErrDeep, inBlocks(31, eight+opens+");"))
		wrongModule(t, api.ErrBig, inBlocks(30, eight+opens+");"))
	}
	// What opens there stands behind its first token.
	for _, later := range []string{"^f(x)", "^int(x)", "^float(x)", "^k.f(x)", "^x", "^f()", "^9"} {
		wrongExpr(t, api.ErrBig, at(31, eight+later+")"))
		wrongModule(t, api.ErrBig, inBlocks(31, eight+later+");"))
	}
	// What can't go on there is told ahead of both.
	for _, other := range []string{"^)", "^,", "^*", "^{", "^;", "^let", "^"} {
		wrongExpr(t, api.ErrSyntax, at(31, eight+other))
	}
	// What opens elsewhere does not where it can't go on.
	wrongExpr(t, api.ErrSyntax, at(32, "x ^!x"))
	wrongExpr(t, api.ErrSyntax, at(32, "1 ^(x)"))
	wrongExpr(t, api.ErrSyntax, at(32, "x ^{"))
	wrongExpr(t, api.ErrSyntax, at(32, "^{"))
	wrongExpr(t, api.ErrSyntax, at(32, "int ^-x"))
	wrongModule(t, api.ErrSyntax, inBlocks(32, "^{ }"))
	wrongModule(t, api.ErrSyntax, inBlocks(32, "^(x);"))
	wrongModule(t, api.ErrSyntax, inBlocks(32, "^-x;"))
	wrongModule(t, api.ErrSyntax, inBlocks(32, "if ^{ }"))
	wrongModule(t, api.ErrSyntax, inBlocks(32, "try ^(x)"))
	// The call of arguments itself, one deeper.
	wrongExpr(t, api.ErrDeep, at(32, "f^(1, 2, 3, 4, 5, 6, 7, 8, 9)"))
}
