package floats

import (
	"math/bits"
	"strconv"
	"strings"

	"foundry/api"
)

const (
	textNaN      = "nan"
	textInfinity = "inf"
	textZero     = "0x0p+0"
	textOne      = "0x1"
	minus        = "-"

	hexDigits        = "0123456789abcdef"
	fractionDigits   = fractionBits / 4
	exponentDigits   = 4
	greatestExponent = 1023
	normalExponent   = -1022 // the least exponent of a float that is not subnormal

	literalDigits = 15 // as many as a float holds exactly, so that a literal is rounded but once
)

// Text: the float's one text, exact.
func Text(a uint64) string {
	negative, m, e := Parts(a)
	return signText(negative) + sizeText(Class(a), m, e)
}

func signText(negative bool) string {
	if negative {
		return minus
	}
	return ""
}

func sizeText(class int, m uint64, e int) string {
	switch class {
	case classNaN:
		return textNaN
	case classInfinite:
		return textInfinity
	case classZero:
		return textZero
	}
	// A subnormal one is written with a leading 1 as well.
	shift := bits.LeadingZeros64(m) - bits.LeadingZeros64(hiddenBit)
	fraction := m << shift & fractionMask
	return textOne + fractionText(fraction) + "p" + exponentText(e-shift+fractionBits)
}

func fractionText(fraction uint64) string {
	if fraction == 0 {
		return ""
	}
	digits := make([]byte, 0, fractionDigits+1)
	digits = append(digits, '.')
	for fraction != 0 {
		digits = append(digits, hexDigits[fraction>>(fractionBits-4)])
		fraction = fraction << 4 & fractionMask
	}
	return string(digits)
}

func exponentText(e int) string {
	if e < 0 {
		return strconv.Itoa(e)
	}
	return "+" + strconv.Itoa(e)
}

// Parse: the float whose Text is just s.
func Parse(s string) (uint64, api.Errno) {
	size, negative := strings.CutPrefix(s, minus)
	a, ok := readSize(size)
	if negative {
		a = Neg(a)
	}
	// What readSize takes too kindly (noughts, lost bits, a sign of NaN) comes out as another text.
	if !ok || Text(a) != s {
		return 0, api.ErrToken
	}
	return a, api.OK
}

func readSize(s string) (uint64, bool) {
	switch s {
	case textNaN:
		return NaN, true
	case textInfinity:
		return infinity, true
	case textZero:
		return 0, true
	}
	rest, isOne := strings.CutPrefix(s, textOne)
	before, after, hasExponent := strings.Cut(rest, "p")
	if !isOne || !hasExponent {
		return 0, false
	}
	fraction, fractionOK := readFraction(before)
	e, exponentOK := readExponent(after)
	if !fractionOK || !exponentOK {
		return 0, false
	}
	return join(fraction, e), true
}

func readFraction(s string) (uint64, bool) {
	if s == "" {
		return 0, true
	}
	digits, hasPoint := strings.CutPrefix(s, ".")
	if !hasPoint || len(digits) > fractionDigits {
		return 0, false
	}
	fraction := uint64(0)
	for i := range len(digits) {
		d := strings.IndexByte(hexDigits, digits[i])
		if d < 0 {
			return 0, false
		}
		fraction = fraction<<4 | uint64(d)
	}
	return fraction << (4 * (fractionDigits - len(digits))), true
}

func readExponent(s string) (int, bool) {
	if s == "" || len(s) > 1+exponentDigits {
		return 0, false
	}
	e := 0
	for i := 1; i < len(s); i++ {
		if !isDigit(s[i]) {
			return 0, false
		}
		e = e*10 + int(s[i]-'0')
	}
	switch s[0] {
	case '+':
	case '-':
		e = -e
	default:
		return 0, false
	}
	return e, leastExponent <= e && e <= greatestExponent
}

// join: the float of a leading 1, that fraction and an exponent in range; bits below the last one are lost.
func join(fraction uint64, e int) uint64 {
	if e < normalExponent {
		return (hiddenBit | fraction) >> (normalExponent - e)
	}
	return uint64(e+exponentBias)<<fractionBits | fraction
}

func isDigit(c byte) bool {
	return '0' <= c && c <= '9'
}

// Literal: the float that a text of digits, a point, digits comes to.
func Literal(s string) (uint64, api.Errno) {
	whole, behind, hasPoint := strings.Cut(s, ".")
	if !hasPoint || !allDigits(whole) || !allDigits(behind) {
		return 0, api.ErrToken
	}
	if len(whole)+len(behind) > literalDigits {
		return 0, api.ErrBig
	}
	m, power := int64(0), int64(1)
	for _, c := range whole + behind {
		m = m*10 + int64(c-'0')
	}
	for range len(behind) {
		power *= 10
	}
	return Div(FromInt(m), FromInt(power)), api.OK
}

func allDigits(s string) bool {
	for i := range len(s) {
		if !isDigit(s[i]) {
			return false
		}
	}
	return s != ""
}
