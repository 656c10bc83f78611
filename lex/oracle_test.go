package lex_test

import (
	"math/big"
	"regexp"
	"strings"
	"testing"

	"foundry/api"
	"foundry/floats"
	"foundry/lex"
)

// A model of the chapter's words: each kind of token is a pattern, and the longest that fits is taken.

const (
	letters = "ABCDEFGHIJKLMNOPQRSTUVWXYZabcdefghijklmnopqrstuvwxyz_"
	digits  = "0123456789"
	blanks  = " \t\n\r"
	exacts  = "0123456789abcdef.p+-" // what `0x` takes along

	infinity = 0x7ff0000000000000
)

// reserved: chapter 4's list, as it stands there.
func reserved() []string {
	return strings.Fields("bool catch const else export fail false float fn if import inf input int let module nan return show true try var while")
}

// longMarks, shortMarks: the chapter's lists, as they stand there.
func longMarks() []string {
	return strings.Fields("<= >= == != && ||")
}

func shortMarks() []string {
	return strings.Fields("( ) { } , ; : . = + - * / % < > !")
}

type patterns struct {
	gap   *regexp.Regexp
	kinds [5]*regexp.Regexp // of Name, Int, Float, Float with 0x, Mark
}

func makePatterns() patterns {
	var marks []string
	for _, m := range append(longMarks(), shortMarks()...) {
		marks = append(marks, regexp.QuoteMeta(m))
	}
	return patterns{
		regexp.MustCompile(`^(?s:[ \t\n\r]|//[^\n]*)*`),
		[5]*regexp.Regexp{
			regexp.MustCompile(`^[a-zA-Z_][a-zA-Z0-9_]*`),
			regexp.MustCompile(`^[0-9]+`),
			regexp.MustCompile(`^[0-9]+\.[0-9]+`),
			regexp.MustCompile(`^0x[0-9a-f.p+\-]*`),
			regexp.MustCompile(`^(?:` + strings.Join(marks, "|") + `)`),
		},
	}
}

// longest: the number of the pattern that fits most bytes, and these; -1, if none fits.
func (p patterns) longest(s string) (int, string) {
	which, best := -1, ""
	for i, k := range p.kinds {
		if m := k.FindString(s); len(m) > len(best) {
			which, best = i, m
		}
	}
	return which, best
}

// token: the token of such a pattern and text, and what is wrong with it.
func token(which int, s string, at int) (lex.Token, api.Errno) {
	t := lex.Token{Text: s, At: at}
	switch which {
	case 0:
		t.Kind = lex.Name
		for _, w := range reserved() {
			if w == s {
				t.Kind = lex.Word
			}
		}
		if len(s) > 32 {
			return t, api.ErrName
		}
	case 1:
		n, _ := new(big.Int).SetString(s, 10)
		if !n.IsInt64() {
			return t, api.ErrRange
		}
		t.Kind, t.Value = lex.Int, api.Value{Type: api.TInt, Bits: n.Uint64()}
	case 2:
		if len(s) > 16 {
			return t, api.ErrBig
		}
		bits, _ := floats.Literal(s)
		t.Kind, t.Value = lex.Float, api.Value{Type: api.TFloat, Bits: bits}
	case 3:
		bits, e := floats.Parse(s)
		if e != api.OK {
			return t, api.ErrToken
		}
		t.Kind, t.Value = lex.Float, api.Value{Type: api.TFloat, Bits: bits}
	case 4:
		t.Kind = lex.Mark
	default:
		return t, api.ErrToken
	}
	return t, api.OK
}

// lexed: what Lex answers.
func (p patterns) lexed(text string) ([]lex.Token, int, api.Errno) {
	if len(text) > 4096 {
		return nil, 0, api.ErrBig
	}
	var l []lex.Token
	at := len(p.gap.FindString(text))
	for at < len(text) {
		which, s := p.longest(text[at:])
		t, e := token(which, s, at)
		if e != api.OK {
			return nil, at, e
		}
		if len(l) == 1024 {
			return nil, at, api.ErrBig
		}
		l = append(l, t)
		at += len(s)
		at += len(p.gap.FindString(text[at:]))
	}
	return l, 0, api.OK
}

// mixer: the same numbers in each run.
type mixer uint64

func (m *mixer) next() uint64 {
	*m += 0x9e3779b97f4a7c15
	z := uint64(*m)
	z = (z ^ z>>30) * 0xbf58476d1ce4e5b9
	z = (z ^ z>>27) * 0x94d049bb133111eb
	return z ^ z>>31
}

func (m *mixer) below(n int) int {
	return int(m.next() % uint64(n))
}

// text: of fewer than long bytes, each one of those.
func (m *mixer) text(bytes string, long int) string {
	s := make([]byte, m.below(long))
	for i := range s {
		s[i] = bytes[m.below(len(bytes))]
	}
	return string(s)
}

func (m *mixer) oneOf(l []string) string {
	return l[m.below(len(l))]
}

// right: the text of a token that is right.
func (m *mixer) right() string {
	switch m.below(8) {
	case 0:
		return m.oneOf(reserved())
	case 1:
		return m.oneOf(reserved()) + m.oneOf([]string{"a", "Z", "_", "0"})
	case 2:
		return string(letters[m.below(len(letters))]) + m.text(letters+digits, api.MaxName)
	case 3:
		return m.oneOf([]string{"0", "00", "7", "007", "9223372036854775807", "0009223372036854775807", m.text(digits, 18) + "1"})
	case 4:
		return m.oneOf([]string{"0.0", "1.5", "00.10", "123456789012345.0"[1:], "0.12345678901234", m.text(digits, 7) + "1." + m.text(digits, 7) + "2"})
	case 5:
		return floats.Text(m.next() % infinity >> m.below(60))
	case 6:
		return m.oneOf(longMarks())
	default:
		return m.oneOf(shortMarks())
	}
}

// wrong: a text that is no token, or one that is wrong.
func (m *mixer) wrong() string {
	return m.oneOf([]string{"&", "|", "#", "\x00", "\x0b", "\x7f", "\x80", "\xff", "é", "`", "'", `"`, "[", "]", "~", "^", "?", "@", "$", `\`,
		"0x", "0x1", "0x1.80p+0", "0x1p+0+", "0xp", "9223372036854775808", "00009223372036854775808", "99999999999999999999",
		"123456789012345.0", "0.123456789012345", strings.Repeat("n", 33), "_" + strings.Repeat("9", 40)})
}

// gap: at least one blank, and remarks.
func (m *mixer) gap() string {
	s := string(blanks[m.below(len(blanks))])
	for m.below(3) == 0 {
		s += m.oneOf([]string{" ", "\t", "\n", "\r", "  \n", "//\n", "// a remark\r\n", "//é\xff\x00 1 + // 2\n", "/// &\n"})
	}
	return s
}

// isLexed fails unless Lex of the text is just that.
func isLexed(t *testing.T, text string, want []lex.Token, at int, e api.Errno) {
	t.Helper()
	l, gotAt, got := lex.Lex(text)
	if got != e || gotAt != at || !equal(l, want) {
		t.Errorf("Lex of %q: %v, %d, %d, not %v, %d, %d", text, l, gotAt, got, want, at, e)
	}
}

// isWrong fails unless Lex of the text has that error at that place, and no tokens.
func isWrong(t *testing.T, text string, at int, e api.Errno) {
	t.Helper()
	isLexed(t, text, nil, at, e)
}

// isTexts fails unless the tokens of the text have those kinds (n, w, i, f, m) and texts, each written as k:text.
func isTexts(t *testing.T, text string, want ...string) {
	t.Helper()
	l, at, e := lex.Lex(text)
	if e != api.OK || at != 0 || len(l) != len(want) {
		t.Errorf("Lex of %q: %v, %d, %d, not %q", text, l, at, e, want)
		return
	}
	for i, x := range l {
		if got := "?nwifm"[x.Kind:x.Kind+1] + ":" + x.Text; got != want[i] {
			t.Errorf("Lex of %q: the token %d is %q, not %q", text, i, got, want[i])
		}
	}
}

// equal: the same tokens at the same places; a list without a token may be nil or empty.
func equal(a, b []lex.Token) bool {
	if len(a) != len(b) {
		return false
	}
	for i := range a {
		if a[i].Kind != b[i].Kind || a[i].Text != b[i].Text || a[i].At != b[i].At || a[i].Value.Type != b[i].Value.Type || a[i].Value.Bits != b[i].Value.Bits {
			return false
		}
	}
	return true
}
