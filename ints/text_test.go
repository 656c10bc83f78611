package ints_test

import (
	"math/big"
	"strings"
	"testing"

	"foundry/api"
	"foundry/ints"
)

// F2.4

func TestDecimalIsTheNumberInDigits(t *testing.T) {
	for _, v := range samples(5000) {
		if got, want := ints.Decimal(v), big.NewInt(v).String(); got != want {
			t.Errorf("Decimal of %d: %q", v, got)
		}
	}
	for v, want := range map[int64]string{0: "0", 7: "7", -7: "-7", 10: "10", -100: "-100",
		least: "-9223372036854775808", greatest: "9223372036854775807"} {
		if got := ints.Decimal(v); got != want {
			t.Errorf("Decimal of %d: %q, not %q", v, got, want)
		}
	}
}

// reading: a text, and what a call answers of it.
type reading struct {
	s  string
	v  int64
	at int
	e  api.Errno
}

func checkReading(t *testing.T, what string, f func(string) (int64, int, api.Errno), want reading) {
	t.Helper()
	v, at, e := f(want.s)
	if v != want.v || at != want.at || e != want.e {
		t.Errorf("%s of %q: %d, %d, %d, not %d, %d, %d", what, want.s, v, at, e, want.v, want.at, want.e)
	}
}

func naturals() []reading {
	return []reading{
		{"0", 0, 0, api.OK},
		{"1", 1, 0, api.OK},
		{"9", 9, 0, api.OK},
		{"10", 10, 0, api.OK},
		{"1234567890", 1234567890, 0, api.OK},
		{"9223372036854775806", greatest - 1, 0, api.OK},
		{"9223372036854775807", greatest, 0, api.OK},
		{"999999999999999999", 999999999999999999, 0, api.OK},
		{"9223372036854775808", 0, 0, api.ErrRange},
		{"9223372036854775809", 0, 0, api.ErrRange},
		{"9223372036854775810", 0, 0, api.ErrRange},
		{"9999999999999999999", 0, 0, api.ErrRange},
		{"10000000000000000000", 0, 0, api.ErrRange},
		{"18446744073709551615", 0, 0, api.ErrRange},
		{"18446744073709551616", 0, 0, api.ErrRange},
		{"18446744073709551617", 0, 0, api.ErrRange},
		{"18446744073709551625", 0, 0, api.ErrRange},
		{"184467440737095516160", 0, 0, api.ErrRange},
		{"36893488147419103233", 0, 0, api.ErrRange},
		{"92233720368547758070", 0, 0, api.ErrRange},
		{"1" + strings.Repeat("0", 64), 0, 0, api.ErrRange},
		{strings.Repeat("9", 1000), 0, 0, api.ErrRange},
		{"", 0, 0, api.ErrToken},
		{"00", 0, 0, api.ErrToken},
		{"01", 0, 0, api.ErrToken},
		{"007", 0, 0, api.ErrToken},
		{"0" + strings.Repeat("9", 30), 0, 0, api.ErrToken},
		{strings.Repeat("0", 30), 0, 0, api.ErrToken},
		{"x", 0, 0, api.ErrToken},
		{"x12", 0, 0, api.ErrToken},
		{"1x", 0, 1, api.ErrToken},
		{"1x2", 0, 1, api.ErrToken},
		{"1x2y", 0, 1, api.ErrToken},
		{"12x", 0, 2, api.ErrToken},
		{"00x", 0, 2, api.ErrToken},
		{"9223372036854775808x", 0, 19, api.ErrToken},
		{strings.Repeat("9", 1000) + ".", 0, 1000, api.ErrToken},
		{" 1", 0, 0, api.ErrToken},
		{"1 ", 0, 1, api.ErrToken},
		{"+1", 0, 0, api.ErrToken},
		{"1_000", 0, 1, api.ErrToken},
		{"0x10", 0, 1, api.ErrToken},
		{"1/", 0, 1, api.ErrToken},
		{"1:", 0, 1, api.ErrToken},
		{"1\n", 0, 1, api.ErrToken},
		{"12\x00", 0, 2, api.ErrToken},
		{"12\xff3", 0, 2, api.ErrToken},
		{"12é", 0, 2, api.ErrToken},
		{"1\u0663", 0, 1, api.ErrToken},
		{"\uff11", 0, 0, api.ErrToken},
	}
}

func TestNaturalReadsDigits(t *testing.T) {
	for _, want := range naturals() {
		checkReading(t, "Natural", ints.Natural, want)
	}
	for _, s := range []string{"-", "-1", "-0", "--1", "-9223372036854775808"} {
		checkReading(t, "Natural", ints.Natural, reading{s, 0, 0, api.ErrToken})
	}
}

func TestReadIsNaturalWithoutASign(t *testing.T) {
	for _, want := range naturals() {
		checkReading(t, "Read", ints.Read, want)
	}
}

func TestReadBehindASign(t *testing.T) {
	for _, want := range []reading{
		{"-1", -1, 0, api.OK},
		{"-10", -10, 0, api.OK},
		{"-9223372036854775807", least + 1, 0, api.OK},
		{"-9223372036854775808", least, 0, api.OK},
		{"-9223372036854775809", 0, 1, api.ErrRange},
		{"-9999999999999999999", 0, 1, api.ErrRange},
		{"-18446744073709551615", 0, 1, api.ErrRange},
		{"-18446744073709551616", 0, 1, api.ErrRange},
		{"-27670116110564327424", 0, 1, api.ErrRange},
		{"-92233720368547758080", 0, 1, api.ErrRange},
		{"-", 0, 1, api.ErrToken},
		{"--", 0, 1, api.ErrToken},
		{"--1", 0, 1, api.ErrToken},
		{"-0", 0, 1, api.ErrToken},
		{"-00", 0, 1, api.ErrToken},
		{"-01", 0, 1, api.ErrToken},
		{"-007", 0, 1, api.ErrToken},
		{"-+1", 0, 1, api.ErrToken},
		{"-x", 0, 1, api.ErrToken},
		{"-1x", 0, 2, api.ErrToken},
		{"-1x2", 0, 2, api.ErrToken},
		{"-1-", 0, 2, api.ErrToken},
		{"-00x", 0, 3, api.ErrToken},
		{"-9223372036854775809x", 0, 20, api.ErrToken},
		{"-\xff", 0, 1, api.ErrToken},
		{"-1é", 0, 2, api.ErrToken},
		{"1-", 0, 1, api.ErrToken},
		{" -1", 0, 0, api.ErrToken},
		{"\u22121", 0, 0, api.ErrToken},
	} {
		checkReading(t, "Read", ints.Read, want)
	}
}

// TestEveryByteAtEveryPlace: a byte that is no digit is told at its place, whatever it is.
func TestEveryByteAtEveryPlace(t *testing.T) {
	for b := range 256 {
		if '0' <= b && b <= '9' {
			continue
		}
		for at := range 21 {
			text := []byte("123456789012345678901")
			text[at] = byte(b)
			checkReading(t, "Natural", ints.Natural, reading{string(text), 0, at, api.ErrToken})
			checkReading(t, "Read", ints.Read, reading{"-" + string(text), 0, at + 1, api.ErrToken})
		}
	}
}

// P203

func TestThereAndBack(t *testing.T) {
	for _, v := range samples(5000) {
		checkReading(t, "Read", ints.Read, reading{ints.Decimal(v), v, 0, api.OK})
		if v >= 0 {
			checkReading(t, "Natural", ints.Natural, reading{ints.Decimal(v), v, 0, api.OK})
		}
	}
}

// TestOneTextANumber goes through all short texts of a few bytes, and others about the edges.
func TestOneTextANumber(t *testing.T) {
	texts := []string{""}
	for from := 0; from < len(texts); from++ {
		s := texts[from]
		if v, _, e := ints.Read(s); e == api.OK && ints.Decimal(v) != s {
			t.Errorf("Read of %q: %d, whose text is %q", s, v, ints.Decimal(v))
		}
		for _, b := range "-+0129x " {
			if len(s) < 5 {
				texts = append(texts, s+string(b))
			}
		}
	}
	for d := int64(-30); d <= 30; d++ {
		for _, far := range []uint{63, 64, 65} {
			n := new(big.Int).Lsh(big.NewInt(1), far)
			n.Add(n, big.NewInt(d))
			for _, v := range []*big.Int{n, new(big.Int).Neg(n)} {
				s := v.String()
				want, e := whole(v)
				at := 0
				if e != api.OK && s[0] == '-' {
					at = 1
				}
				checkReading(t, "Read", ints.Read, reading{s, want, at, e})
			}
		}
	}
}
