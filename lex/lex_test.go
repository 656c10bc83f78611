package lex_test

import (
	"math"
	"slices"
	"strings"
	"testing"

	"foundry/api"
	"foundry/lex"
)

// P501: the whole text

func TestLexTellsTextsAndPlacesInOrder(t *testing.T) {
	text := "module m; // the first\n\nexport fn f(a: int): float {\r\n\treturn float(a) * 0x1.8p+0 - 2.50 / 03;\n}"
	want := []lex.Token{
		plain(lex.Word, "module", 0), plain(lex.Name, "m", 7), plain(lex.Mark, ";", 8),
		plain(lex.Word, "export", 24), plain(lex.Word, "fn", 31), plain(lex.Name, "f", 34), plain(lex.Mark, "(", 35), plain(lex.Name, "a", 36), plain(lex.Mark, ":", 37),
		plain(lex.Word, "int", 39), plain(lex.Mark, ")", 42), plain(lex.Mark, ":", 43), plain(lex.Word, "float", 45), plain(lex.Mark, "{", 51),
		plain(lex.Word, "return", 55), plain(lex.Word, "float", 62), plain(lex.Mark, "(", 67), plain(lex.Name, "a", 68), plain(lex.Mark, ")", 69), plain(lex.Mark, "*", 71),
		floatToken("0x1.8p+0", 0x3ff8000000000000, 73), plain(lex.Mark, "-", 82), floatToken("2.50", 0x4004000000000000, 84), plain(lex.Mark, "/", 89), intToken("03", 3, 91), plain(lex.Mark, ";", 93),
		plain(lex.Mark, "}", 95),
	}
	isLexed(t, text, want, 0, api.OK)
}

func TestOnlyNumbersHaveAValue(t *testing.T) {
	isLexed(t, "true false inf nan input x0 == 0 0.0", []lex.Token{
		plain(lex.Word, "true", 0), plain(lex.Word, "false", 5), plain(lex.Word, "inf", 11), plain(lex.Word, "nan", 15), plain(lex.Word, "input", 19), plain(lex.Name, "x0", 25),
		plain(lex.Mark, "==", 28), intToken("0", 0, 31), floatToken("0.0", 0, 33),
	}, 0, api.OK)
}

func TestTextsAtMaxText(t *testing.T) {
	if api.MaxText != 4096 {
		t.Fatalf("MaxText: %d", api.MaxText)
	}
	for _, unit := range []string{" ", "\n", "/", "a", "1", "&", "(", "a ", "\x00"} {
		s := strings.Repeat(unit, api.MaxText+1)
		for _, n := range []int{api.MaxText + 1, api.MaxText + 2, api.MaxText * 2} {
			isWrong(t, strings.Repeat(s, 2)[:n], 0, api.ErrBig)
		}
	}
	isWrong(t, strings.Repeat("// r\n", 1<<20), 0, api.ErrBig)
	isLexed(t, strings.Repeat(" ", api.MaxText), nil, 0, api.OK)
	isLexed(t, "//"+strings.Repeat("&", api.MaxText-2), nil, 0, api.OK)
	isLexed(t, strings.Repeat("\n", api.MaxText-1)+"a", []lex.Token{plain(lex.Name, "a", api.MaxText-1)}, 0, api.OK)
	isLexed(t, strings.Repeat("\t", api.MaxText-1)+"/", []lex.Token{plain(lex.Mark, "/", api.MaxText-1)}, 0, api.OK)
	isLexed(t, "a"+strings.Repeat("\r", api.MaxText-1), []lex.Token{plain(lex.Name, "a", 0)}, 0, api.OK)
	isLexed(t, strings.Repeat("0", api.MaxText-1)+"7", []lex.Token{intToken(strings.Repeat("0", api.MaxText-1)+"7", 7, 0)}, 0, api.OK)
	isWrong(t, strings.Repeat(" ", api.MaxText-1)+"&", api.MaxText-1, api.ErrToken)
	isWrong(t, strings.Repeat(" ", api.MaxText)+"&", 0, api.ErrBig)
	isWrong(t, "&"+strings.Repeat(" ", api.MaxText-1), 0, api.ErrToken)
	isWrong(t, " &"+strings.Repeat(" ", api.MaxText-1), 0, api.ErrBig)
}

func TestTokensAtMaxTokens(t *testing.T) {
	if api.MaxTokens != 1024 {
		t.Fatalf("MaxTokens: %d", api.MaxTokens)
	}
	for _, unit := range []string{";", "a ", "1 ", "if\n", ".", "1;"} {
		s := strings.Repeat(unit, api.MaxTokens)
		if unit == "1;" {
			s = s[:api.MaxTokens]
		}
		l, at, e := lex.Lex(s)
		if len(l) != api.MaxTokens || at != 0 || e != api.OK {
			t.Errorf("Lex of %d times %q: %d tokens, %d, %d", api.MaxTokens, unit, len(l), at, e)
		}
		for i := 1; i < len(l); i++ {
			if l[i].At <= l[i-1].At || s[l[i].At:l[i].At+len(l[i].Text)] != l[i].Text {
				t.Errorf("Lex of %d times %q: the token %d stands at %d", api.MaxTokens, unit, i, l[i].At)
			}
		}
		for _, more := range []string{";", "a", "1", "1.5", "0x1p+0", "<=", "if"} {
			isWrong(t, s+" "+more, len(s)+1, api.ErrBig)
			isWrong(t, s+" // r\n"+more, len(s)+6, api.ErrBig)
			isWrong(t, s+"\n"+more+" "+more, len(s)+1, api.ErrBig)
			isWrong(t, s+"\n"+more+" &", len(s)+1, api.ErrBig)
		}
		for _, none := range []string{"", " ", "\n\n", " // r", " // r\n "} {
			if l, at, e := lex.Lex(s + none); len(l) != api.MaxTokens || at != 0 || e != api.OK {
				t.Errorf("Lex of %d times %q and %q: %d tokens, %d, %d", api.MaxTokens, unit, none, len(l), at, e)
			}
		}
	}
	if l, _, _ := lex.Lex(strings.Repeat(";", api.MaxTokens-1)); len(l) != api.MaxTokens-1 {
		t.Errorf("%d tokens", len(l))
	}
	isWrong(t, strings.Repeat(";", api.MaxText), api.MaxTokens, api.ErrBig)
}

func TestATokensOwnErrorIsAheadOfOneTooMany(t *testing.T) {
	s := strings.Repeat(";", api.MaxTokens)
	isWrong(t, s+"&", api.MaxTokens, api.ErrToken)
	isWrong(t, s+"0x", api.MaxTokens, api.ErrToken)
	isWrong(t, s+"9223372036854775808", api.MaxTokens, api.ErrRange)
	isWrong(t, s+strings.Repeat("n", 33), api.MaxTokens, api.ErrName)
	isWrong(t, s+"1.000000000000000", api.MaxTokens, api.ErrBig)
	isWrong(t, s[1:]+"&", api.MaxTokens-1, api.ErrToken)
	isWrong(t, s[1:]+"9223372036854775808", api.MaxTokens-1, api.ErrRange)
}

// wrongTokens: each kind of what is wrong, by itself.
func wrongTokens() map[string]api.Errno {
	return map[string]api.Errno{
		"&": api.ErrToken, "\xff": api.ErrToken, "0x1": api.ErrToken, "9223372036854775808": api.ErrRange,
		"1.123456789012345": api.ErrBig, strings.Repeat("n", 33): api.ErrName,
	}
}

func TestTheFirstWrongPlaceFromTheLeftCounts(t *testing.T) {
	for a, e := range wrongTokens() {
		for b := range wrongTokens() {
			isWrong(t, a+" "+b, 0, e)
			isWrong(t, "x = 1; "+a+" y\n"+b, 7, e)
			isWrong(t, "// "+b+"\n"+a+" "+b+strings.Repeat(" ;", api.MaxTokens+1), 4+len(b), e)
			isWrong(t, a+" "+a+" "+b, 0, e)
			isWrong(t, a+" "+b+strings.Repeat(" ", api.MaxText), 0, api.ErrBig)
		}
	}
}

func TestWithAnErrorThereAreNoTokens(t *testing.T) {
	for s, want := range wrongTokens() {
		for _, text := range []string{s, "a b c " + s, s + " a b c", "a b c " + s + " a b c"} {
			l, _, e := lex.Lex(text)
			if len(l) != 0 || e != want {
				t.Errorf("Lex of %q: %v, %d", text, l, e)
			}
		}
	}
}

// texts calls f with n texts out of right and wrong tokens, and of bytes.
func texts(n int, f func(text string)) {
	m := mixer(2)
	for range n {
		text := ""
		for range m.below(12) {
			if m.below(20) == 0 {
				text += m.wrong()
			} else {
				text += m.right()
			}
			if m.below(3) > 0 {
				text += m.gap()
			}
		}
		f(text)
		f(m.text("0x1.8p+-/=&|<>! \n\"ab_Z;\x80", 20))
	}
	for range n / 50 {
		text := ""
		for m.below(1500) > 0 && len(text) < api.MaxText+50 {
			text += m.right() + m.gap()[:1]
		}
		f(text)
	}
}

func TestLexIsTheModels(t *testing.T) {
	p := makePatterns()
	count := 0
	texts(20000, func(text string) {
		want, at, e := p.lexed(text)
		isLexed(t, text, want, at, e)
		if e == api.OK {
			count++
		}
	})
	if count < 10000 {
		t.Errorf("only %d of the texts were right", count)
	}
}

func TestLexedTokensAreNewMemory(t *testing.T) {
	text := "let x = 1.5; // go"
	want, _, _ := lex.Lex(text)
	l, _, _ := lex.Lex(text)
	room := l[:cap(l)]
	for i := range room {
		room[i] = lex.Token{Kind: 9, Text: "other", Value: api.Value{Type: 9, Bits: 9}, At: 9}
	}
	isLexed(t, text, want, 0, api.OK)
}

// P502

func TestJoin(t *testing.T) {
	for _, x := range []struct {
		texts []string
		want  string
	}{
		{nil, ""}, {[]string{}, ""}, {[]string{"a"}, "a"}, {[]string{""}, ""}, {[]string{"a", "b"}, "a b"}, {[]string{"", ""}, " "},
		{[]string{"a", "<=", "b", ";"}, "a <= b ;"}, {[]string{" ", "\n", "//"}, "  \n //"}, {[]string{"\xff", "é", "a b"}, "\xff é a b"},
	} {
		var l []lex.Token
		for i, s := range x.texts {
			l = append(l, lex.Token{Kind: 7 - i, Text: s, Value: api.Value{Type: i, Bits: 1}, At: -i})
		}
		if got := lex.Join(l); got != x.want {
			t.Errorf("Join of %q: %q, not %q", x.texts, got, x.want)
		}
	}
	if got := lex.Join([]lex.Token{}); got != "" {
		t.Errorf("Join of none: %q", got)
	}
	many := make([]lex.Token, 5000)
	for i := range many {
		many[i].Text = "ab"
	}
	if got := lex.Join(many); got != strings.Repeat("ab ", 4999)+"ab" {
		t.Errorf("Join of 5000 has %d bytes", len(got))
	}
}

// isSame fails unless Same of the two, either way round, is that.
func isSame(t *testing.T, a, b []lex.Token, want bool) {
	t.Helper()
	if lex.Same(a, b) != want || lex.Same(b, a) != want {
		t.Errorf("Same of %v, %v: %t, %t, not %t", a, b, lex.Same(a, b), lex.Same(b, a), want)
	}
}

func TestSame(t *testing.T) {
	base := []lex.Token{plain(lex.Word, "let", 0), plain(lex.Name, "x", 4), intToken("1", 1, 6), floatToken("1.5", 0x3ff8000000000000, 8)}
	isSame(t, base, base, true)
	isSame(t, nil, nil, true)
	isSame(t, nil, []lex.Token{}, true)
	isSame(t, nil, base, false)
	isSame(t, []lex.Token{}, base[:1], false)
	isSame(t, nil, make([]lex.Token, 1), false)
	for i := range base {
		isSame(t, base, base[:i], false)
		isSame(t, base, base[i+1:], false)
		for _, x := range []struct {
			change func(x *lex.Token)
			want   bool
		}{
			{func(x *lex.Token) {}, true},
			{func(x *lex.Token) { x.Kind++ }, false},
			{func(x *lex.Token) { x.Kind = math.MinInt }, false},
			{func(x *lex.Token) { x.Text += " " }, false},
			{func(x *lex.Token) { x.Text = "" }, false},
			{func(x *lex.Token) { x.Value.Type ^= 1 }, false},
			{func(x *lex.Token) { x.Value.Bits++ }, false},
			{func(x *lex.Token) { x.Value.Bits ^= 1 << 63 }, false},
			{func(x *lex.Token) { x.At++ }, true},
			{func(x *lex.Token) { x.At = math.MinInt }, true},
			{func(x *lex.Token) { x.At, x.Kind = 99, 0 }, false},
		} {
			other := slices.Clone(base)
			x.change(&other[i])
			isSame(t, base, other, x.want)
		}
	}
	isSame(t, []lex.Token{base[0], base[1]}, []lex.Token{base[1], base[0]}, false)
	isSame(t, base, append(slices.Clone(base), lex.Token{}), false)
	isSame(t, []lex.Token{plain(lex.Name, "a", 0)}, []lex.Token{plain(lex.Name, "A", 0)}, false)
	// The same number in other digits is another text.
	isSame(t, []lex.Token{intToken("7", 7, 0)}, []lex.Token{intToken("07", 7, 0)}, false)
}

func TestJoinAndSameLeaveTheirListsAsTheyAre(t *testing.T) {
	l, _, _ := lex.Lex("let x = 1.5; y = 0x1p+0 <= 07; // go")
	room := append(slices.Clone(l), lex.Token{Text: "spare"}, lex.Token{Text: "room"})
	other := slices.Clone(room)
	for i := range other {
		other[i].At += 100
	}
	was, otherWas := slices.Clone(room), slices.Clone(other)
	n := len(l)
	lex.Join(room[:n])
	if !lex.Same(room[:n], other[:n]) || lex.Same(room[:n], other[:n-1]) {
		t.Error("Same went by places, or not by length")
	}
	if !equal(room, was) || !equal(other, otherWas) {
		t.Error("a list that was handed in has changed")
	}
}

// P503

func TestLineAtEachPlace(t *testing.T) {
	for _, text := range []string{"", "a", "\n", "a\nb", "a\nb\n", "\n\n", "\na", "\n\n\n", "ab\n\ncd\re\r\n\tf\n", "ab\n\ncd", "é\né", "\r\r", "\x0b\x0c\u2028\n", "// r\nx = 1;\n", strings.Repeat("ab\n", 2000)} {
		line, place := 0, 0
		for at := range len(text) {
			isLine(t, text, at, line, place)
			place++
			if text[at] == 10 {
				line, place = line+1, 0
			}
		}
		for _, at := range []int{0, 1, 2, 100, 1 << 40, math.MaxInt - len(text)} {
			isLine(t, text, len(text)+at, line, place)
		}
		for _, at := range []int{-1, -2, -100, math.MinInt} {
			isLine(t, text, at, 0, 0)
		}
	}
}

// isLine fails unless Line is that.
func isLine(t *testing.T, text string, at, line, place int) {
	t.Helper()
	if l, p := lex.Line(text, at); l != line || p != place {
		t.Errorf("Line of %.40q, %d: %d, %d, not %d, %d", text, at, l, p, line, place)
	}
}

func TestLineOfATextThatIsTooBigToBeLexed(t *testing.T) {
	text := strings.Repeat("x", api.MaxText*3) + "\n" + strings.Repeat("y", 5)
	isLine(t, text, api.MaxText*3, 0, api.MaxText*3)
	isLine(t, text, api.MaxText*3+1, 1, 0)
	isLine(t, text, math.MaxInt, 1, 5)
}

// P504

func TestJoinedTokensAreReadAgain(t *testing.T) {
	count := 0
	texts(10000, func(text string) {
		l, _, e := lex.Lex(text)
		joined := lex.Join(l)
		if e != api.OK || len(joined) > api.MaxText {
			return
		}
		count++
		again, at, e := lex.Lex(joined)
		if e != api.OK || at != 0 || !lex.Same(l, again) {
			t.Errorf("Lex of %q joined: %v, %d, %d, not %v", text, again, at, e, l)
		}
		if lex.Join(again) != joined {
			t.Errorf("%q joined twice: %q, not %q", text, lex.Join(again), joined)
		}
	})
	if count < 5000 {
		t.Errorf("only %d of the texts were right", count)
	}
}

func TestJoinedTokensAtTheLimits(t *testing.T) {
	l, _, _ := lex.Lex(strings.Repeat("+", api.MaxTokens))
	again, _, e := lex.Lex(lex.Join(l))
	if e != api.OK || len(again) != api.MaxTokens || !lex.Same(l, again) {
		t.Errorf("%d tokens joined: %d, %d", len(l), len(again), e)
	}
	// Blanks that were not there make the joined text too long.
	l, _, e = lex.Lex(strings.Repeat("abcdefg+", 512))
	if len(l) != 1024 || e != api.OK {
		t.Fatalf("%d tokens, %d", len(l), e)
	}
	isWrong(t, lex.Join(l), 0, api.ErrBig)
}

// P505

// isStill fails unless the text has the same tokens.
func isStill(t *testing.T, text string, l []lex.Token) {
	t.Helper()
	again, at, e := lex.Lex(text)
	if len(text) <= api.MaxText && (e != api.OK || at != 0 || !lex.Same(l, again)) {
		t.Errorf("Lex of %q: %v, %d, %d, not %v", text, again, at, e, l)
	}
}

func TestMoreBlanksAndRemarksBetweenTokens(t *testing.T) {
	m := mixer(3)
	texts(10000, func(text string) {
		l, _, e := lex.Lex(text)
		if e != api.OK {
			return
		}
		more := m.gap()
		for i, x := range l {
			end := len(text)
			if i+1 < len(l) {
				end = l[i+1].At
			}
			more += text[x.At:end]
			// A text's last remark may have no end.
			if i+1 < len(l) && m.below(3) > 0 {
				more += m.gap()
			}
		}
		isStill(t, more, l)
	})
}

func TestEachGapBetweenTokens(t *testing.T) {
	m := mixer(4)
	for range 3000 {
		a, b := m.right(), m.right()
		l, _, e := lex.Lex(a + " " + b)
		if e != api.OK || len(l) != 2 || l[0].Text != a || l[1].Text != b {
			t.Fatalf("Lex of %q: %v, %d", a+" "+b, l, e)
		}
		for _, gap := range []string{"  ", "\t", "\n", "\r", "\r\n", " //\n", " // r\n", "\n//\n\n// &\n\t", strings.Repeat(" ", 100)} {
			isStill(t, a+gap+b, l)
			isStill(t, gap+a+gap+b+gap, l)
			isStill(t, a+gap+b+" // r", l)
		}
		if a != "/" {
			isStill(t, a+"//r\n"+b, l)
		}
	}
}

func TestWhereThereMustBeABlank(t *testing.T) {
	isTexts(t, "a b", "n:a", "n:b")
	isTexts(t, "ab", "n:ab")
	isTexts(t, "a 1", "n:a", "i:1")
	isTexts(t, "a1", "n:a1")
	isTexts(t, "1 2", "i:1", "i:2")
	isTexts(t, "12", "i:12")
	isTexts(t, "if x", "w:if", "n:x")
	isTexts(t, "ifx", "n:ifx")
	isTexts(t, "1.5 2", "f:1.5", "i:2")
	isTexts(t, "1.52", "f:1.52")
	isTexts(t, "0x1p+0 -1", "f:0x1p+0", "m:-", "i:1")
	isWrong(t, "0x1p+0-1", 0, api.ErrToken)
	isTexts(t, "0x1p+0 .x", "f:0x1p+0", "m:.", "n:x")
	isWrong(t, "0x1p+0.x", 0, api.ErrToken)
	isTexts(t, "0 x1p", "i:0", "n:x1p")
	isWrong(t, "0x1p", 0, api.ErrToken)
}

// The chapter's examples.

func TestExamples(t *testing.T) {
	isLexed(t, "let x = 1.5; // go", []lex.Token{
		plain(lex.Word, "let", 0), plain(lex.Name, "x", 4), plain(lex.Mark, "=", 6), floatToken("1.5", 0x3ff8000000000000, 8), plain(lex.Mark, ";", 11),
	}, 0, api.OK)
	isTexts(t, "a<=b", "n:a", "m:<=", "n:b")
	isTexts(t, "1.x", "i:1", "m:.", "n:x")
	isWrong(t, "a & b", 2, api.ErrToken)
	isWrong(t, "9223372036854775808", 0, api.ErrRange)
	isWrong(t, "`é`", 0, api.ErrToken)
	isLine(t, "a\nb", 2, 1, 0)
	isLine(t, "a\nb", 1, 0, 1)
}
