package lex_test

import (
	"math"
	"slices"
	"strings"
	"testing"

	"foundry/api"
	"foundry/floats"
	"foundry/lex"
)

func intToken(s string, v uint64, at int) lex.Token {
	return lex.Token{Kind: lex.Int, Text: s, Value: api.Value{Type: api.TInt, Bits: v}, At: at}
}

func floatToken(s string, bits uint64, at int) lex.Token {
	return lex.Token{Kind: lex.Float, Text: s, Value: api.Value{Type: api.TFloat, Bits: bits}, At: at}
}

// plain: a token without a Value.
func plain(kind int, s string, at int) lex.Token {
	return lex.Token{Kind: kind, Text: s, At: at}
}

// isOne fails unless the token alone is all there is, also behind a blank, and ahead of a blank, a byte 10, a Mark, a remark.
func isOne(t *testing.T, x lex.Token) {
	t.Helper()
	for _, ahead := range []string{"", " ", "\n\t", "//r\n"} {
		for _, behind := range []string{"", " ", "\n", "\t\r\n", " //"} {
			y := x
			y.At = len(ahead)
			isLexed(t, ahead+x.Text+behind, []lex.Token{y}, 0, api.OK)
		}
		y := x
		y.At = len(ahead)
		isLexed(t, ahead+x.Text+";", []lex.Token{y, plain(lex.Mark, ";", len(ahead)+len(x.Text))}, 0, api.OK)
	}
}

// P501: the kinds

func TestKindsAreNumbered(t *testing.T) {
	if lex.Name != 1 || lex.Word != 2 || lex.Int != 3 || lex.Float != 4 || lex.Mark != 5 {
		t.Error("the kinds are not 1 to 5")
	}
}

func TestTheEmptyTextAndGapsHaveNoToken(t *testing.T) {
	for _, s := range []string{"", " ", "\t", "\n", "\r", " \t\n\r \t\n\r", "//", "// a", "//\n", "//\n//", " // a\n\t// b\r\n ", "///", "////\n", "//\x00\xff é & | #", "//0x\n//99999999999999999999"} {
		isLexed(t, s, nil, 0, api.OK)
	}
}

func TestEachByteAtTheBeginning(t *testing.T) {
	for b := range 256 {
		s := string([]byte{byte(b)})
		for _, ahead := range []string{"", " ", "x ", "; ", "//r\n"} {
			var want []lex.Token
			if ahead == "x " {
				want = append(want, plain(lex.Name, "x", 0))
			}
			if ahead == "; " {
				want = append(want, plain(lex.Mark, ";", 0))
			}
			at := len(ahead)
			switch {
			case strings.Contains(blanks, s):
				isLexed(t, ahead+s, want, 0, api.OK)
			case strings.Contains(letters, s):
				isLexed(t, ahead+s, append(want, plain(lex.Name, s, at)), 0, api.OK)
			case strings.Contains(digits, s):
				isLexed(t, ahead+s, append(want, intToken(s, uint64(b-'0'), at)), 0, api.OK)
			case slices.Contains(shortMarks(), s):
				isLexed(t, ahead+s, append(want, plain(lex.Mark, s, at)), 0, api.OK)
			default:
				isWrong(t, ahead+s, at, api.ErrToken)
				isWrong(t, ahead+s+" x", at, api.ErrToken)
			}
		}
	}
}

func TestEachByteBehindEachKind(t *testing.T) {
	p := makePatterns()
	for b := range 256 {
		for _, s := range []string{"a", "_", "if", "i", "0", "12", "1.", "1.5", "0x", "0x1p+0", "0x1", "<", "=", "!", "&", "|", "/", "//", "-", ".", "(", " "} {
			for _, behind := range []string{"", "1", "a", "=", " "} {
				text := s + string([]byte{byte(b)}) + behind
				want, at, e := p.lexed(text)
				isLexed(t, text, want, at, e)
			}
		}
	}
}

func TestAllTextsOfFourBytesOutOfFew(t *testing.T) {
	p := makePatterns()
	few := "0x.1a/=&! \n"
	n := len(few)
	for i := range n * n * n * n {
		text := string([]byte{few[i%n], few[i/n%n], few[i/n/n%n], few[i/n/n/n]})
		want, at, e := p.lexed(text)
		isLexed(t, text, want, at, e)
	}
}

func TestNames(t *testing.T) {
	for _, s := range []string{"a", "z", "A", "Z", "_", "__", "a0", "a9", "z_9Z", "main", "While", "NaN", "TRUE", "_if", "x0x1p", "e10", "p", letters[:32], strings.Repeat("_", 32)} {
		isOne(t, plain(lex.Name, s, 0))
	}
	isTexts(t, "a.b", "n:a", "m:.", "n:b")
	isTexts(t, "a-b", "n:a", "m:-", "n:b")
	isTexts(t, "a b", "n:a", "n:b")
	isTexts(t, "9a", "i:9", "n:a")
	isTexts(t, "1e5", "i:1", "n:e5")
	isTexts(t, "1_000", "i:1", "n:_000")
}

func TestNamesAtMaxName(t *testing.T) {
	if api.MaxName != 32 {
		t.Fatalf("MaxName: %d", api.MaxName)
	}
	for _, unit := range []string{"a", "Z", "_", "m9"} {
		s := strings.Repeat(unit, 200)
		for _, n := range []int{1, 31, 32} {
			isOne(t, plain(lex.Name, s[:n], 0))
		}
		for _, n := range []int{33, 34, 64, 200} {
			isWrong(t, s[:n], 0, api.ErrName)
			isWrong(t, "x = "+s[:n]+";", 4, api.ErrName)
			isWrong(t, "\n//r\n"+s[:n]+" &", 5, api.ErrName)
		}
	}
	isWrong(t, strings.Repeat("a", api.MaxText), 0, api.ErrName)
	for _, w := range reserved() {
		isWrong(t, w+strings.Repeat("a", 32), 0, api.ErrName)
	}
}

func TestReservedWordsAreWords(t *testing.T) {
	if len(reserved()) != 23 {
		t.Fatalf("%d reserved words", len(reserved()))
	}
	for _, w := range reserved() {
		isOne(t, plain(lex.Word, w, 0))
		for _, more := range []string{"a", "Z", "_", "0", "9", w} {
			isOne(t, plain(lex.Name, w+more, 0))
		}
		isOne(t, plain(lex.Name, "_"+w, 0))
		isOne(t, plain(lex.Name, "x"+w, 0))
		isOne(t, plain(lex.Name, strings.ToUpper(w), 0))
		isTexts(t, w+"."+w+"("+w+")", "w:"+w, "m:.", "w:"+w, "m:(", "w:"+w, "m:)")
	}
	isOne(t, plain(lex.Name, "i", 0))
	isOne(t, plain(lex.Name, "tru", 0))
}

func TestInts(t *testing.T) {
	for _, x := range []struct {
		s string
		v uint64
	}{
		{"0", 0}, {"1", 1}, {"9", 9}, {"10", 10}, {"42", 42}, {"1234567890", 1234567890},
		{"00", 0}, {"000", 0}, {"01", 1}, {"007", 7}, {"0010", 10}, {strings.Repeat("0", 100), 0}, {strings.Repeat("0", 100) + "5", 5},
		{"9223372036854775806", math.MaxInt64 - 1}, {"9223372036854775807", math.MaxInt64}, {"009223372036854775807", math.MaxInt64},
		{strings.Repeat("0", 1000) + "9223372036854775807", math.MaxInt64},
	} {
		isOne(t, intToken(x.s, x.v, 0))
	}
	isTexts(t, "-1", "m:-", "i:1")
	isTexts(t, "-9223372036854775807", "m:-", "i:9223372036854775807")
	isTexts(t, "1 2", "i:1", "i:2")
}

func TestIntsBeyond64Bits(t *testing.T) {
	for _, s := range []string{"9223372036854775808", "9223372036854775809", "9223372036854775810", "09223372036854775808", strings.Repeat("0", 500) + "9223372036854775808",
		"9999999999999999999", "10000000000000000000", "18446744073709551615", "18446744073709551616", "18446744073709551617", "36893488147419103233", strings.Repeat("9", 400), "1" + strings.Repeat("0", 400)} {
		isWrong(t, s, 0, api.ErrRange)
		isWrong(t, "-"+s, 1, api.ErrRange)
		isWrong(t, "let x = "+s+";", 8, api.ErrRange)
		isWrong(t, s+".", 0, api.ErrRange)
		isWrong(t, s+".x", 0, api.ErrRange)
	}
	isWrong(t, strings.Repeat("1", api.MaxText), 0, api.ErrRange)
}

func TestFloatsInDigits(t *testing.T) {
	for _, x := range []struct {
		s    string
		bits uint64
	}{
		{"0.0", 0}, {"1.0", 0x3ff0000000000000}, {"1.5", 0x3ff8000000000000}, {"0.1", 0x3fb999999999999a}, {"0.5", 0x3fe0000000000000},
		{"00.50", 0x3fe0000000000000}, {"3.0000", 0x4008000000000000}, {"2.5", 0x4004000000000000},
		{"123456789012345.0"[1:], math.Float64bits(23456789012345)}, {"0.00000000000001", math.Float64bits(1e-14)}, {"00000000000000.0", 0},
		{"99999999999999.9", math.Float64bits(99999999999999.9)}, {"9.99999999999999", math.Float64bits(9.99999999999999)},
	} {
		isOne(t, floatToken(x.s, x.bits, 0))
	}
	isTexts(t, "1.5.6", "f:1.5", "m:.", "i:6")
	isTexts(t, "1.5.x", "f:1.5", "m:.", "n:x")
	isTexts(t, "1.2.3.4", "f:1.2", "m:.", "f:3.4")
	isTexts(t, "1.5e3", "f:1.5", "n:e3")
	isTexts(t, "-1.5", "m:-", "f:1.5")
	isTexts(t, "1.0x1", "f:1.0", "n:x1")
	isTexts(t, "x1.5", "n:x1", "m:.", "i:5")
	isTexts(t, ".5", "m:.", "i:5")
}

func TestFloatsAt15Digits(t *testing.T) {
	all := "123456789012345678901234567890"
	for _, n := range []int{2, 14, 15, 16, 17, 30} {
		for cut := 1; cut < n; cut++ {
			s := all[:cut] + "." + all[cut:n]
			if n <= 15 {
				bits, _ := floats.Literal(s)
				isOne(t, floatToken(s, bits, 0))
				continue
			}
			isWrong(t, s, 0, api.ErrBig)
			isWrong(t, "x = -"+s+";", 5, api.ErrBig)
		}
	}
	isWrong(t, "0000000000000000.0", 0, api.ErrBig)
	isWrong(t, "0.0000000000000000", 0, api.ErrBig)
	isWrong(t, "9223372036854775808.0", 0, api.ErrBig)
	isWrong(t, strings.Repeat("9", 2000)+"."+strings.Repeat("9", 2000), 0, api.ErrBig)
	// What stands behind a second point is of the next token.
	isTexts(t, "12345678901234.5.12345678901234.5", "f:12345678901234.5", "m:.", "f:12345678901234.5")
}

func TestDigitsWithAPointAndNoDigitBehindIt(t *testing.T) {
	isTexts(t, "1.", "i:1", "m:.")
	isTexts(t, "1.x", "i:1", "m:.", "n:x")
	isTexts(t, "1. 5", "i:1", "m:.", "i:5")
	isTexts(t, "1 .5", "i:1", "m:.", "i:5")
	isTexts(t, "1..5", "i:1", "m:.", "m:.", "i:5")
	isTexts(t, "1.\n5", "i:1", "m:.", "i:5")
	isTexts(t, "1.//5", "i:1", "m:.")
	isTexts(t, "1.-5", "i:1", "m:.", "m:-", "i:5")
	isTexts(t, "1._5", "i:1", "m:.", "n:_5")
	isTexts(t, "007.", "i:007", "m:.")
	isTexts(t, "1234567890123456.", "i:1234567890123456", "m:.")
	isTexts(t, "1234567890123456.a", "i:1234567890123456", "m:.", "n:a")
	isWrong(t, "1.&", 2, api.ErrToken)
	isTexts(t, "1.0xg", "f:1.0", "n:xg")
}

func TestFloatsWith0x(t *testing.T) {
	for _, x := range []struct {
		s    string
		bits uint64
	}{
		{"0x0p+0", 0}, {"0x1p+0", 0x3ff0000000000000}, {"0x1.8p+0", 0x3ff8000000000000}, {"0x1.999999999999ap-4", 0x3fb999999999999a},
		{"0x1p-1074", 1}, {"0x1p+1023", 0x7fe0000000000000}, {"0x1.fffffffffffffp+1023", 0x7fefffffffffffff}, {"0x1.abcdefp+10", 0x409abcdef0000000},
		{"0x1p-1022", 0x0010000000000000}, {"0x1.ffffffffffffep-1023", 0x000fffffffffffff},
	} {
		isOne(t, floatToken(x.s, x.bits, 0))
	}
	m := mixer(1)
	for range 3000 {
		bits := m.next() % infinity >> m.below(60)
		isOne(t, floatToken(floats.Text(bits), bits, 0))
	}
	isTexts(t, "-0x1p+0", "m:-", "f:0x1p+0")
	isTexts(t, "-0x0p+0", "m:-", "f:0x0p+0")
	isTexts(t, "0x1p+0x", "f:0x1p+0", "n:x")
	isTexts(t, "0x1p+0g", "f:0x1p+0", "n:g")
	isTexts(t, "0x1p+0_", "f:0x1p+0", "n:_")
	isTexts(t, "0x1p+0A", "f:0x1p+0", "n:A")
	isTexts(t, "0x1p+0*0x1p-1", "f:0x1p+0", "m:*", "f:0x1p-1")
	isTexts(t, "(0x1p+0)/2", "m:(", "f:0x1p+0", "m:)", "m:/", "i:2")
	isTexts(t, "0x1p+0 + 1", "f:0x1p+0", "m:+", "i:1")
	isTexts(t, "0x1p+0//+1", "f:0x1p+0")
}

func TestWhat0xTakesAlong(t *testing.T) {
	for b := range 256 {
		s := string([]byte{byte(b)})
		switch {
		case !strings.Contains(exacts, s):
			// The Float is `0x1p+0`, and what stands behind it is right or wrong by itself.
			want := []lex.Token{floatToken("0x1p+0", 0x3ff0000000000000, 0)}
			more, at, e := lex.Lex(s)
			if e != api.OK {
				isWrong(t, "0x1p+0"+s, at+6, e)
				break
			}
			for _, x := range more {
				x.At += 6
				want = append(want, x)
			}
			isLexed(t, "0x1p+0"+s, want, 0, api.OK)
		case '0' <= b && b <= '9':
			isWrong(t, "0x1p+0"+s, 0, api.ErrToken)
			bits, _ := floats.Parse("0x1p+1" + s)
			isLexed(t, "0x1p+1"+s, []lex.Token{floatToken("0x1p+1"+s, bits, 0)}, 0, api.OK)
		default:
			isWrong(t, "0x1p+0"+s, 0, api.ErrToken)
			isWrong(t, "x 0x1p+0"+s+"1", 2, api.ErrToken)
			isWrong(t, "(0x"+s+")", 1, api.ErrToken)
		}
	}
}

func TestWhatParseDoesNotTake(t *testing.T) {
	for _, s := range []string{"0x", "0x0", "0x1", "0x.", "0xp", "0x+", "0x-", "0xf", "0x1.8", "0x1p", "0x1p+", "0x1p0", "0x1.p+0", "0x1.80p+0", "0x01p+0", "0x2p+0", "0x1p+00", "0x1p-0", "0x1p+1024",
		"0x1p-1075", "0x0p-1", "0x1p+0+1", "0x1p+0-1", "0x1p+0.5", "0x1p+0p+0", "0x1.8p+0.", "0x1.8p+0..", "0x-1p+0", "0x1.99999999999990ap-4", "0x1.8p-1074", "0x" + strings.Repeat("f", 1000)} {
		for _, behind := range []string{"", " ", ";", "//", "\n1", "x", "P+0", "X"} {
			isWrong(t, s+behind, 0, api.ErrToken)
			isWrong(t, "-"+s+behind, 1, api.ErrToken)
			isWrong(t, "f( "+s+behind, 3, api.ErrToken)
		}
	}
	isWrong(t, "0x"+strings.Repeat("0", api.MaxText-2), 0, api.ErrToken)
	isWrong(t, "0x1P+0", 0, api.ErrToken)
	isWrong(t, "0x1.Ap+0", 0, api.ErrToken)
}

func TestWhatIsNo0x(t *testing.T) {
	isTexts(t, "0X1p+0", "i:0", "n:X1p", "m:+", "i:0")
	isTexts(t, "00x1p+0", "i:00", "n:x1p", "m:+", "i:0")
	isTexts(t, "10x1p+0", "i:10", "n:x1p", "m:+", "i:0")
	isTexts(t, "0 x1p+0", "i:0", "n:x1p", "m:+", "i:0")
	isTexts(t, "1x", "i:1", "n:x")
	isTexts(t, "a0x1p+0", "n:a0x1p", "m:+", "i:0")
	isTexts(t, "_0x", "n:_0x")
	isTexts(t, "0.0x1", "f:0.0", "n:x1")
	isTexts(t, "1.0x1", "f:1.0", "n:x1")
	isTexts(t, ".0x1p+0", "m:.", "f:0x1p+0")
	isTexts(t, "a.0x1p+0", "n:a", "m:.", "f:0x1p+0")
	isTexts(t, "0.x", "i:0", "m:.", "n:x")
}

func TestMarksOfOneByte(t *testing.T) {
	if len(shortMarks()) != 17 {
		t.Fatalf("%d Marks of one byte", len(shortMarks()))
	}
	for _, m := range shortMarks() {
		isOne(t, plain(lex.Mark, m, 0))
		isTexts(t, "a "+m+" b", "n:a", "m:"+m, "n:b")
		isTexts(t, "a"+m+"b", "n:a", "m:"+m, "n:b")
		isTexts(t, m+" "+m, "m:"+m, "m:"+m)
	}
}

func TestMarksOfTwoBytes(t *testing.T) {
	if len(longMarks()) != 6 {
		t.Fatalf("%d Marks of two bytes", len(longMarks()))
	}
	for _, m := range longMarks() {
		first, second := m[:1], m[1:]
		isOne(t, plain(lex.Mark, m, 0))
		isTexts(t, "a"+m+"b", "n:a", "m:"+m, "n:b")
		isTexts(t, m+m, "m:"+m, "m:"+m)
		isTexts(t, "1"+m+"1.5", "i:1", "m:"+m, "f:1.5")
		if first == "&" || first == "|" {
			isWrong(t, first, 0, api.ErrToken)
			isWrong(t, first+" ", 0, api.ErrToken)
			isWrong(t, first+" "+second, 0, api.ErrToken)
			isWrong(t, first+"\n"+second, 0, api.ErrToken)
			isWrong(t, "a"+first+"b", 1, api.ErrToken)
			isWrong(t, m+first, 2, api.ErrToken)
			isWrong(t, "a "+m+" "+first+" b", 5, api.ErrToken)
			continue
		}
		isTexts(t, first, "m:"+first)
		isTexts(t, first+" ", "m:"+first)
		for _, between := range []string{" ", "\t", "\n", "\r", "//\n"} {
			isTexts(t, first+between+second, "m:"+first, "m:"+second)
		}
		isTexts(t, m+second, "m:"+m, "m:"+second)
	}
	isWrong(t, "&|", 0, api.ErrToken)
	isWrong(t, "|&", 0, api.ErrToken)
	isWrong(t, "|=", 0, api.ErrToken)
	isWrong(t, "&=", 0, api.ErrToken)
}

func TestPairsOfMarkBytes(t *testing.T) {
	all := append(shortMarks(), "&", "|")
	for _, a := range all {
		for _, b := range all {
			switch {
			case slices.Contains(longMarks(), a+b):
				isTexts(t, a+b, "m:"+a+b)
			case a+b == "//":
				isTexts(t, a+b)
			case a == "&" || a == "|":
				isWrong(t, a+b, 0, api.ErrToken)
			case b == "&" || b == "|":
				isWrong(t, a+b, 1, api.ErrToken)
			default:
				isTexts(t, a+b, "m:"+a, "m:"+b)
			}
		}
	}
	isTexts(t, "<==", "m:<=", "m:=")
	isTexts(t, "===", "m:==", "m:=")
	isTexts(t, "!!=", "m:!", "m:!=")
	isTexts(t, "!==", "m:!=", "m:=")
	isTexts(t, "=<", "m:=", "m:<")
	isTexts(t, ">>=", "m:>", "m:>=")
	isTexts(t, "--x", "m:-", "m:-", "n:x")
}

// P501: what stands between

func TestEachBlank(t *testing.T) {
	for _, b := range blanks {
		s := string(b)
		isLexed(t, "a"+s+"b", []lex.Token{plain(lex.Name, "a", 0), plain(lex.Name, "b", 2)}, 0, api.OK)
		isLexed(t, s+"a"+s+s+"1"+s, []lex.Token{plain(lex.Name, "a", 1), intToken("1", 1, 4)}, 0, api.OK)
		isLexed(t, "="+s+"=", []lex.Token{plain(lex.Mark, "=", 0), plain(lex.Mark, "=", 2)}, 0, api.OK)
		isTexts(t, "1"+s+".5", "i:1", "m:.", "i:5")
		isTexts(t, "whi"+s+"le", "n:whi", "n:le")
		isTexts(t, "0"+s+"x1", "i:0", "n:x1")
	}
	for _, s := range []string{"\x0b", "\x0c", "\x00", "\x1c", "\x1f", "\u00a0", "\u0085", "\u2028", "\ufeff"} {
		isWrong(t, "a"+s+"b", 1, api.ErrToken)
		isWrong(t, s, 0, api.ErrToken)
	}
}

func TestRemarks(t *testing.T) {
	a := plain(lex.Name, "a", 0)
	for _, text := range []string{"a//", "a//r", "a // b", "a//b", "a//\n", "a//\rb", "a// r\n// b", "a////", "a//b\n \t"} {
		isLexed(t, text, []lex.Token{a}, 0, api.OK)
	}
	for _, text := range []string{"a//\nb", "a//r\nb", "a //r\nb", "a // r\n b", "a// r // s\nb", "a///\nb", "a// r\n// s\nb", "a// r\r\nb", "a//\\\nb", "a//\x00\xff\nb",
		"a//\n\n//\n//\n b", "a// é & | # 0x 99999999999999999999\nb"} {
		isLexed(t, text, []lex.Token{a, plain(lex.Name, "b", len(text)-1)}, 0, api.OK)
	}
	for _, s := range []string{"if", "1", "1.5", "0x1p+0", "<=", "=", "(", "<", "-", "."} {
		one, _, _ := lex.Lex(s)
		isLexed(t, s+"//r", one, 0, api.OK)
		isLexed(t, s+"//=\n", one, 0, api.OK)
	}
}

func TestASingleSlashIsAMark(t *testing.T) {
	isTexts(t, "/", "m:/")
	isTexts(t, "a/b", "n:a", "m:/", "n:b")
	isTexts(t, "a / b", "n:a", "m:/", "n:b")
	isTexts(t, "a/ /b", "n:a", "m:/", "m:/", "n:b")
	isTexts(t, "a/\n/b", "n:a", "m:/", "m:/", "n:b")
	isTexts(t, "a/ //b", "n:a", "m:/")
	isTexts(t, "/=", "m:/", "m:=")
	isTexts(t, "/*a*/", "m:/", "m:*", "n:a", "m:*", "m:/")
	isTexts(t, "a\n//b\n/", "n:a", "m:/")
}
