package ints

import (
	"math"
	"math/bits"
	"strconv"
	"strings"

	"foundry/api"
)

// greatestBelowZero: the amount of -2^63, one more than a number above 0 may have.
const greatestBelowZero uint64 = 1 << 63

// Decimal: the number in decimal digits.
func Decimal(v int64) string {
	return strconv.FormatInt(v, 10)
}

// Natural: what the decimal digits mean, or the place at which they mean nothing.
func Natural(s string) (int64, int, api.Errno) {
	amount, at, e := readAmount(s, math.MaxInt64)
	return int64(amount), at, e
}

// Read: Natural, with a `-` ahead of a number below 0.
func Read(s string) (int64, int, api.Errno) {
	digits, negative := strings.CutPrefix(s, "-")
	if !negative {
		return Natural(s)
	}
	amount, at, e := readAmount(digits, greatestBelowZero)
	switch {
	case e != api.OK:
		return 0, len("-") + at, e
	case amount == 0:
		return 0, len("-"), api.ErrToken
	}
	return int64(-amount), 0, api.OK
}

// readAmount: the number of the digits, that may be most at most.
// All of the text is gone through even where it is too much already: a byte that is no digit comes first.
func readAmount(s string, most uint64) (uint64, int, api.Errno) {
	var amount uint64
	fits := true
	for at, r := range s {
		if r < '0' || '9' < r {
			return 0, at, api.ErrToken
		}
		if fits {
			amount, fits = appendDigit(amount, uint64(r-'0'), most)
		}
	}
	switch {
	case s == "" || len(s) > 1 && s[0] == '0':
		return 0, 0, api.ErrToken
	case !fits:
		return 0, 0, api.ErrRange
	}
	return amount, 0, api.OK
}

// appendDigit: ten times the amount and the digit, and whether that is at most most.
func appendDigit(amount, digit, most uint64) (uint64, bool) {
	high, low := bits.Mul64(amount, 10)
	low, carry := bits.Add64(low, digit, 0)
	if high != 0 || carry != 0 || low > most {
		return 0, false
	}
	return low, true
}
