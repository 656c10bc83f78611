package parse_test

import (
	"slices"
	"strings"
	"testing"

	"foundry/api"
	"foundry/lex"
	"foundry/parse"
)

// P701: what is wrong, and where

func TestTextsThatEndAheadOfEachToken(t *testing.T) {
	ends := map[int]bool{} // how many tokens make a module by themselves
	l := tokensOf(t, fullText)
	depth := 0
	for i, x := range l {
		switch x.Text {
		case "{":
			depth++
		case "}":
			depth--
		}
		if depth == 0 && i > 0 && (x.Text == ";" || x.Text == "}") {
			ends[i+1] = true
		}
	}
	for i, x := range l {
		for _, text := range []string{fullText[:x.At], strings.TrimRight(fullText[:x.At], " \n"), fullText[:x.At] + " // module\n\t"} {
			if !ends[i] {
				wrongModule(t, api.ErrSyntax, text+"^")
			} else if _, at, e := parse.Parse(text); at != 0 || e != api.OK {
				t.Errorf("%q: %d, %d", text, at, e)
			}
		}
	}
}

func TestTokensWithWhichNothingGoesOn(t *testing.T) {
	text := lex.Join(tokensOf(t, fullText))
	for i, x := range tokensOf(t, text) {
		// The word `module` stands nowhere but at the beginning.
		other := "module"
		if i == 0 {
			other = "import"
		}
		wrongModule(t, api.ErrSyntax, text[:x.At]+"^"+other+text[x.At+len(x.Text):])
		wrongModule(t, api.ErrSyntax, text[:x.At]+"^"+other+" "+text[x.At:])
		wrongModule(t, api.ErrSyntax, text[:x.At]+"^"+other)
	}
	wrongModule(t, api.ErrSyntax, text+" ^module")
}

// isAsTheModelSays fails unless the text, as a module or an expr, has the error that the model has.
func isAsTheModelSays(t *testing.T, g *grammar, start, text string) api.Errno {
	t.Helper()
	at, code := g.modelFault(text, start)
	gotAt, got := 0, api.OK
	zero := true
	if start == "module" {
		m, place, e := parse.Parse(text)
		gotAt, got, zero = place, e, same(m, api.Module{})
	} else {
		x, place, e := parse.Expr(text)
		gotAt, got, zero = place, e, same(x, api.Expr{})
	}
	if gotAt != at || got != code {
		t.Errorf("%s %q: %d, %d, not %d, %d", start, text, gotAt, got, at, code)
	}
	if zero != (code != api.OK) {
		t.Errorf("%s %q: a zero answer: %t, beside %d", start, text, zero, code)
	}
	return code
}

func TestEachTokenBehindEachBeginning(t *testing.T) {
	g := readGrammar()
	c := g.chart("module")
	text := lex.Join(tokensOf(t, fullText))
	for _, x := range tokensOf(t, text) {
		ahead := text[:x.At]
		expected := c.expected()
		for _, other := range allTokens() {
			goesOn := slices.Contains(expected, role(tokensOf(t, other)[0]))
			_, at, e := parse.Parse(ahead + other)
			switch {
			case !goesOn && (e != api.ErrSyntax || at != x.At):
				t.Errorf("%q: %d, %d, not at %d", ahead+other, at, e, x.At)
			case goesOn && e != api.OK && (e != api.ErrSyntax || at != len(ahead+other)):
				t.Errorf("%q: %d, %d, but it can go on", ahead+other, at, e)
			}
		}
		c.push(x)
	}
}

func TestLexErrorsComeFirst(t *testing.T) {
	long := strings.Repeat("a", 33)
	for _, x := range []struct {
		code   api.Errno
		marked string
	}{
		{api.ErrToken, "x ^# "}, {api.ErrToken, "module m; )) ^&"}, {api.ErrToken, "module m; fn f() { ^\"a\" }"}, {api.ErrToken, "^\x00"}, {api.ErrToken, "module m; ^é"},
		{api.ErrToken, "} ^0x"}, {api.ErrRange, ", ^9223372036854775808"}, {api.ErrName, "1 2 3 ^" + long}, {api.ErrBig, "; ^0.1234567890123456"},
		{api.ErrToken, strings.Repeat("(", 40) + "^@"}, {api.ErrToken, "f(1,2,3,4,5,6,7,8,9,^$)"}, {api.ErrBig, "^" + strings.Repeat(" ", 4097)},
		{api.ErrBig, "^)" + strings.Repeat(" ", 4096)}, {api.ErrBig, strings.Repeat(")", 1024) + " ^)"}, {api.ErrBig, "module m; " + strings.Repeat(";", 1021) + "^;"},
	} {
		wrongModuleOrExpr(t, x.code, x.marked)
	}
	wrongModuleOrExpr(t, api.ErrSyntax, "^)"+strings.Repeat(" ", 4095))
	wrongModuleOrExpr(t, api.ErrSyntax, "^"+strings.Repeat(")", 1024))
	wrongModuleOrExpr(t, api.ErrSyntax, strings.Repeat(" ", 4096)+"^")
	wrongModuleOrExpr(t, api.ErrSyntax, "^)// # & \"")
}

// wrongModuleOrExpr fails unless the text has that error as either.
func wrongModuleOrExpr(t *testing.T, code api.Errno, marked string) {
	t.Helper()
	isWrong(t, parse.Parse, code, marked)
	isWrong(t, parse.Expr, code, marked)
}

func TestEveryTextOfAFewTokens(t *testing.T) {
	g := readGrammar()
	all := allTokens()
	for _, a := range all {
		isAsTheModelSays(t, g, "module", a)
		isAsTheModelSays(t, g, "expr", a)
		for _, b := range all {
			isAsTheModelSays(t, g, "module", a+" "+b)
			isAsTheModelSays(t, g, "expr", a+"\n"+b)
			isAsTheModelSays(t, g, "expr", "-x "+a+" "+b)
			isAsTheModelSays(t, g, "module", "module m; fn f() { "+a+" "+b)
			isAsTheModelSays(t, g, "module", "module m; fn f() { x "+a+" "+b+" ; }")
		}
	}
}

func TestSpoiltModulesAsTheModelSays(t *testing.T) {
	g := readGrammar()
	x := mixer(701)
	full := tokensOf(t, fullText)
	counts := map[api.Errno]int{}
	for range 1500 {
		l := full
		if x.below(2) == 0 {
			l = tokensOf(t, writer(&x, x.below(3)).module(x.module()))
		}
		counts[isAsTheModelSays(t, g, "module", lex.Join(x.spoil(l)))]++
	}
	for range 1500 {
		e := writer(&x, x.below(3)).expr(x.expr(x.below(20)), 1)
		counts[isAsTheModelSays(t, g, "expr", lex.Join(x.spoil(tokensOf(t, e))))]++
	}
	if counts[api.OK] < 50 || counts[api.ErrSyntax] < 1000 {
		t.Errorf("not much was tried: %v", counts)
	}
}

// walk: a text that begins so and has n tokens more, each of which can go on, of those mostly that are wanted where they can.
func (x *mixer) walk(c *chart, begin string, n int, wanted ...string) string {
	first, _, _ := lex.Lex(begin)
	for _, t := range first {
		c.push(t)
	}
	for range n {
		l := c.expected()
		if len(l) == 0 {
			break
		}
		s := pick(x, l...)
		for _, w := range wanted {
			if slices.Contains(l, w) && x.below(12) > 0 {
				s = w
				break
			}
		}
		text, ok := map[string]string{"NAME": "x", "INT": "1", "FLOAT": "1.0"}[s]
		if !ok {
			text = s
		}
		t, _, _ := lex.Lex(text)
		c.push(t[0])
		begin += pick(x, " ", "  ", "\n") + text
	}
	return begin
}

func TestWalksThroughTheGrammar(t *testing.T) {
	g := readGrammar()
	x := mixer(7)
	counts := map[api.Errno]int{}
	inFunction := "module m; fn f() {"
	for _, w := range []struct {
		start, begin, wanted string
		most                 int
	}{
		{"module", "", "", 200}, {"module", "module m;", "fn ( NAME , : int", 100}, {"module", "module m;", "import NAME ;", 60}, {"module", "module m;", "fn ( ) { } NAME", 450}, {"module", "module m;", "const ; : int = NAME INT", 500},
		{"module", inFunction, "while { INT", 150}, {"module", inFunction, "if INT { else }", 300}, {"module", inFunction, "try { catch NAME", 150}, {"module", inFunction, "NAME = INT ;", 200}, {"module", inFunction, "NAME ( INT ,", 40},
		{"module", inFunction + "x(", "! - ( ,", 80}, {"expr", "", "", 200}, {"expr", "", "- !", 60}, {"expr", "", "(", 60}, {"expr", "", "NAME (", 100}, {"expr", "", "int (", 100}, {"expr", "", "NAME . ( -", 100},
		{"expr", "f(", ", INT", 40}, {"expr", "f(", ", - INT", 60}, {"expr", "f(", ", ( INT )", 100}, {"expr", "k.f(", ", NAME ( INT )", 100}, {"expr", opened(30, exprNests()...) + "f(", ", INT", 40}, {"expr", opened(31, exprNests()[0]) + "f(", ", INT -", 40},
		{"expr", opened(31, exprNests()[0]) + "f(1,1,1,1,1,1,1,1,", "", 3}, {"expr", opened(30, exprNests()[0]) + "f(1,1,1,1,1,1,1,1,", "", 3}, {"expr", opened(32, exprNests()[0]), "", 3}, {"expr", opened(32, exprNests()[8]), "NAME ( )", 5},
	} {
		for range 40 {
			text := x.walk(g.chart(w.start), w.begin, 1+x.below(w.most), strings.Fields(w.wanted)...)
			counts[isAsTheModelSays(t, g, w.start, text+pick(&x, "", " x", " )", " -", " }"))]++
		}
	}
	if counts[api.ErrDeep] < 100 || counts[api.ErrBig] < 100 || counts[api.ErrSyntax] < 100 {
		t.Errorf("not much was tried: %v", counts)
	}
}
