package floats_test

import (
	"math"
	"math/big"
	"strconv"
	"strings"
	"testing"

	"foundry/api"
	"foundry/floats"
)

// P107

// wantText: by the library's text, whose exponent has at least two digits.
func wantText(a uint64) string {
	switch {
	case isNaN(a):
		return "nan"
	case a == inf:
		return "inf"
	case a == negInf:
		return "-inf"
	}
	s := strconv.FormatFloat(math.Float64frombits(a), 'x', -1, 64)
	size, exponent, _ := strings.Cut(s, "p")
	if len(exponent) == 3 && exponent[1] == '0' {
		exponent = exponent[:1] + exponent[2:]
	}
	return size + "p" + exponent
}

func TestTextOfNamedFloats(t *testing.T) {
	for _, c := range []struct {
		a    uint64
		want string
	}{
		{floats.NaN, "nan"},
		{0xfff0000000000001, "nan"},
		{inf, "inf"},
		{negInf, "-inf"},
		{0, "0x0p+0"},
		{negZero, "-0x0p+0"},
		{one, "0x1p+0"},
		{one | negZero, "-0x1p+0"},
		{two, "0x1p+1"},
		{0x4090000000000000, "0x1p+10"},
		{0x3ff8000000000000, "0x1.8p+0"},
		{0x3fb999999999999a, "0x1.999999999999ap-4"},
		{0x3ff00000000000f0, "0x1.00000000000fp+0"},
		{1, "0x1p-1074"},
		{3, "0x1.8p-1073"},
		{0x800fffffffffffff, "-0x1.ffffffffffffep-1023"},
		{0x0010000000000000, "0x1p-1022"},
		{greatest, "0x1.fffffffffffffp+1023"},
	} {
		if got := floats.Text(c.a); got != c.want {
			t.Errorf("Text(%#x) = %s, not %s", c.a, got, c.want)
		}
		if back, e := floats.Parse(c.want); back != floats.Canon(c.a) || e != api.OK {
			t.Errorf("Parse(%s) = %#x, %d", c.want, back, e)
		}
	}
}

func TestTextIsExact(t *testing.T) {
	all := samples(5000)
	for e := -1074; e <= 1023; e++ {
		power := math.Float64bits(math.Ldexp(1, e))
		all = append(all, power, power|1, power-1|negZero)
	}
	for _, a := range all {
		if got := floats.Text(a); got != wantText(a) {
			t.Errorf("Text(%#x) = %s, not %s", a, got, wantText(a))
		}
	}
}

func TestParseOfWrongTexts(t *testing.T) {
	for _, s := range []string{
		"", "-", "+", "x", "0", "1", "0x", "0x1", "0x0", "0x1p", "0x1p+", "0x1p-", "0x1p0", "0x1p1",
		"NaN", "NAN", "-nan", "+nan", "Inf", "INF", "+inf", "--inf", "infinity", "-infinity", "inf ", " inf",
		"0x0p-0", "0x0p+00", "0x0p+1", "0x0.0p+0", "0x0.8p+0", "+0x0p+0", "--0x0p+0",
		"0x1p-0", "0x1p+00", "0x1p+01", "0x1p-01", "0x1.p+0", "0x1.0p+0", "0x1.80p+0", "0x1.8p+0 ", " 0x1.8p+0",
		"0X1p+0", "0x1P+0", "0x1.Ap+0", "0x1.gp+0", "0x1_0p+0", "0x2p+0", "0x3p+0", "0x01p+0", "0x11p+0", "x1p+0", "1p+0",
		"+0x1p+0", "--0x1p+0", "- 0x1p+0", "0x1..8p+0", "0x1.8.8p+0", "0x18p+0", "0x1,8p+0", "0x1.8e+0", "0x1p+0p+0",
		"0x1.ffffffffffffffp+0", "0x1.00000000000001p+0", "0x1.10000000000000p+0", "0x1.fffffffffffff8p+1023",
		"0x1p+1024", "0x1p+9999", "0x1p+99999999999999999999", "0x1p-1075", "0x1p-9999", "0x1p-18446744073709551616",
		"0x1p+18446744073709551616", "0x1.8p-1074", "0x1.0000000000001p-1023", "0x1.fffffffffffffp-1023",
		"1.5", "0.1", "1e5", "0x1p+0\n", "0x1p+0\x00", "0x1p+1a", "0x1p+-1", "0x1p++1", "\xff", "0x1p+\xd9\xa1",
		strings.Repeat("0", 100000), "0x1." + strings.Repeat("f", 100000) + "p+0", "0x1p+" + strings.Repeat("1", 100000),
	} {
		if a, e := floats.Parse(s); a != 0 || e != api.ErrToken {
			t.Errorf("Parse(%.40q) = %#x, %d", s, a, e)
		}
	}
}

// near calls f with the texts that are s but for one byte: left out, put in or changed.
func near(s string, f func(string)) {
	for i := range len(s) + 1 {
		for _, c := range "0189afgpxPX+-._ \x00" {
			f(s[:i] + string(c) + s[i:])
			if i < len(s) {
				f(s[:i] + string(c) + s[i+1:])
			}
		}
		if i < len(s) {
			f(s[:i] + s[i+1:])
		}
	}
}

func TestParseTakesJustTexts(t *testing.T) {
	for _, a := range append(edges(), samples(20)...) {
		near(wantText(a), func(s string) {
			want, wantE := uint64(0), api.ErrToken
			if x, err := strconv.ParseFloat(s, 64); err == nil && wantText(math.Float64bits(x)) == s {
				want, wantE = floats.Canon(math.Float64bits(x)), api.OK
			}
			if got, e := floats.Parse(s); got != want || e != wantE {
				t.Errorf("Parse(%q) = %#x, %d, not %#x, %d", s, got, e, want, wantE)
			}
		})
	}
}

// P108

func TestLiteralOfNamedTexts(t *testing.T) {
	for _, c := range []struct {
		s    string
		want float64
	}{
		{"0.0", 0}, {"0.1", 0.1}, {"1.0", 1}, {"1.5", 1.5}, {"00.10", 0.1}, {"9.9", 9.9},
		{"00000000000000.0", 0},
		{"99999999999999.9", 99999999999999.9},
		{"12345678901234.5", 12345678901234.5},
		{"0.00000000000001", 1e-14},
		{"1.23456789012345", 1.23456789012345},
		{"0.99999999999999", 0.99999999999999},
	} {
		a, e := floats.Literal(c.s)
		if a != math.Float64bits(c.want) || e != api.OK {
			t.Errorf("Literal(%s) = %#x, %d, not %#x", c.s, a, e, math.Float64bits(c.want))
		}
	}
}

func TestLiteralIsRoundedOnce(t *testing.T) {
	m := mixer(5)
	for range 20000 {
		n := 2 + int(m.next()%14)
		point := 1 + int(m.next()%uint64(n-1))
		var digits strings.Builder
		for i := range n {
			if i == point {
				digits.WriteByte('.')
			}
			digits.WriteByte(byte('0' + m.next()%10))
		}
		s := digits.String()
		r, _ := new(big.Rat).SetString(s)
		want := uint64(0)
		if r.Sign() != 0 {
			want = nearest(r)
		}
		if a, e := floats.Literal(s); a != want || e != api.OK {
			t.Errorf("Literal(%s) = %#x, %d, not %#x", s, a, e, want)
		}
	}
}

func TestLiteralOfWrongTexts(t *testing.T) {
	for _, s := range []string{
		"", ".", "1", "1.", ".1", "..", "1..0", "1.0.0", "-1.0", "+1.0", " 1.0", "1.0 ", "1 .0", "1. 0", "1,0",
		"1.0e5", "1e5", "1.0f", "a.0", "1.a", "0x1.8", "1_0.0", "1.0_0", "1.0\n", "1.0\x00", "/.0", ":.0", "0./", "0.:",
		"nan", "inf", "\xd9\xa1.\xd9\xa0", "1.\xff",
		"1234567890123456", "1234567890123456.", ".1234567890123456", "1234567890123456.x", "x.1234567890123456",
		"-1234567890123456.0", "1234567890123456.0.0", strings.Repeat("1", 100000),
	} {
		if a, e := floats.Literal(s); a != 0 || e != api.ErrToken {
			t.Errorf("Literal(%.40q) = %#x, %d", s, a, e)
		}
	}
}

func TestLiteralOfMoreThanFifteenDigits(t *testing.T) {
	for _, s := range []string{
		"1234567890123456.0", "123456789012345.6", "1.234567890123456", "0.000000000000000", "000000000000000.0",
		"0000000000000001.0", "1.0000000000000000", strings.Repeat("9", 100000) + ".0", "0." + strings.Repeat("0", 100000),
	} {
		if a, e := floats.Literal(s); a != 0 || e != api.ErrBig {
			t.Errorf("Literal(%.40q) = %#x, %d", s, a, e)
		}
	}
}
