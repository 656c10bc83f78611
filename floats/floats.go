// Package floats is layer 1: floats by their bits. See shared/doc/01-floats.md.
package floats

import (
	"cmp"
	"math"

	"foundry/api"
)

// NaN: the one that is told.
const NaN uint64 = 0x7ff8000000000001

// How the bits of a float are laid out: a sign, 11 bits of exponent, 52 of fraction.
const (
	signBit      uint64 = 1 << 63
	hiddenBit    uint64 = 1 << fractionBits
	fractionMask uint64 = hiddenBit - 1
	exponentMask uint64 = 0x7ff
	infinity     uint64 = exponentMask << fractionBits

	fractionBits  = 52
	exponentBias  = 1023
	leastExponent = -1074 // of the last bit of a subnormal one
)

// What Class answers.
const (
	classNaN       = 1
	classInfinite  = 2
	classZero      = 3
	classSubnormal = 4
	classNormal    = 5
)

// Canon: the one NaN of a NaN, else the float itself.
func Canon(a uint64) uint64 {
	return bitsOf(math.Float64frombits(a))
}

// bitsOf lets no NaN but the one out: which bits the machine gives a NaN is not told.
func bitsOf(x float64) uint64 {
	if x != x {
		return NaN
	}
	return math.Float64bits(x)
}

// Class: 1 a NaN, 2 infinite, 3 a zero, 4 subnormal, 5 another one.
func Class(a uint64) int {
	const leastNormal = 0x1p-1022
	x := math.Float64frombits(a)
	switch {
	case x != x:
		return classNaN
	case math.IsInf(x, 0):
		return classInfinite
	case x == 0:
		return classZero
	case -leastNormal < x && x < leastNormal:
		return classSubnormal
	}
	return classNormal
}

// Parts: the sign, m and e of a float that is m times 2 to the power e.
func Parts(a uint64) (bool, uint64, int) {
	negative := a&signBit != 0
	switch Class(a) {
	case classNaN:
		return false, 0, 0
	case classInfinite:
		return negative, 0, 0
	case classZero, classSubnormal:
		return negative, a & fractionMask, leastExponent
	}
	exponent := int(a >> fractionBits & exponentMask)
	return negative, a&fractionMask | hiddenBit, exponent - exponentBias - fractionBits
}

// Add: the sum, rounded once.
func Add(a, b uint64) uint64 {
	// The conversion here and below keeps a compiler from fusing two operations into one rounding.
	return bitsOf(float64(math.Float64frombits(a) + math.Float64frombits(b)))
}

// Sub: the difference, rounded once.
func Sub(a, b uint64) uint64 {
	return bitsOf(float64(math.Float64frombits(a) - math.Float64frombits(b)))
}

// Mul: the product, rounded once.
func Mul(a, b uint64) uint64 {
	return bitsOf(float64(math.Float64frombits(a) * math.Float64frombits(b)))
}

// Div: the quotient, rounded once.
func Div(a, b uint64) uint64 {
	return bitsOf(float64(math.Float64frombits(a) / math.Float64frombits(b)))
}

// Neg: the sign turned, of zeros too.
func Neg(a uint64) uint64 {
	return Canon(a ^ signBit)
}

// Equal: as numbers, so that the zeros are equal and a NaN is unlike itself.
func Equal(a, b uint64) bool {
	return math.Float64frombits(a) == math.Float64frombits(b)
}

// Less: as numbers.
func Less(a, b uint64) bool {
	return math.Float64frombits(a) < math.Float64frombits(b)
}

// LessEq: as numbers.
func LessEq(a, b uint64) bool {
	return math.Float64frombits(a) <= math.Float64frombits(b)
}

// Compare: -1, 0, 1 by a total order, the negative zero ahead of the other one, NaN last.
func Compare(a, b uint64) int {
	x, y := math.Float64frombits(a), math.Float64frombits(b)
	switch {
	case x != x && y != y:
		return 0
	case x != x:
		return 1
	case y != y:
		return -1
	case x < y:
		return -1
	case y < x:
		return 1
	}
	// Only zeros are equal as numbers and yet may have unlike signs.
	return cmp.Compare(b&signBit, a&signBit)
}

// Next: the one behind it in the order of Compare.
func Next(a uint64) uint64 {
	switch {
	case Class(a) == classNaN:
		return NaN
	case a == signBit:
		return 0
	case a&signBit != 0:
		return a - 1
	}
	// Behind infinity the bits are those of a NaN.
	return Canon(a + 1)
}

// FromInt: the nearest float, ties to even.
func FromInt(n int64) uint64 {
	return bitsOf(float64(n))
}

// ToInt: the int without what stands behind the point.
func ToInt(a uint64) (int64, api.Errno) {
	const beyondInts = 0x1p63
	x := math.Float64frombits(a)
	// No float lies between -2^63 - 1 and -2^63, so that the bound below needs no more care.
	if x >= -beyondInts && x < beyondInts {
		return int64(x), api.OK
	}
	return 0, api.ErrConv
}
