package fold_test

import (
	"fmt"
	"math"
	"testing"

	"foundry/api"
	"foundry/floats"
	"foundry/fold"
)

func TestExamplesOfOperators(t *testing.T) {
	is(t, "2^63 - 1 + 1", bin(api.BAdd, whole(greatest), whole(1)), traps(api.TrapOver))
	is(t, "-7 / 2", bin(api.BDiv, whole(-7), whole(2)), has(whole(-3)))
	is(t, "-7 % 2", bin(api.BRem, whole(-7), whole(2)), has(whole(-1)))
	is(t, "1.0 / 0.0", bin(api.BDiv, float(1), float(0)), has(float(math.Inf(1))))
	is(t, "1 + 1.0", bin(api.BAdd, whole(1), float(1)), traps(none))
	is(t, "int(1e300)", un(api.UInt, float(1e300)), traps(api.TrapConv))
	is(t, "!true", un(api.UNot, truth(true)), has(truth(false)))
}

// P901.
func TestUnOfNamedValues(t *testing.T) {
	inf := math.Inf(1)
	for _, c := range []struct {
		op   int
		a    api.Value
		want outcome
	}{
		{api.UNeg, whole(0), has(whole(0))},
		{api.UNeg, whole(5), has(whole(-5))},
		{api.UNeg, whole(greatest), has(whole(-greatest))},
		{api.UNeg, whole(-greatest), has(whole(greatest))},
		{api.UNeg, whole(least), traps(api.TrapOver)},
		{api.UNeg, float(0), has(bitsFloat(signBit))},
		{api.UNeg, bitsFloat(signBit), has(float(0))},
		{api.UNeg, float(1.5), has(float(-1.5))},
		{api.UNeg, float(inf), has(float(-inf))},
		{api.UNeg, float(-0x1p63), has(float(0x1p63))},
		{api.UNeg, bitsFloat(floats.NaN), has(bitsFloat(floats.NaN))},
		{api.UNeg, truth(true), traps(none)},
		{api.UNot, truth(false), has(truth(true))},
		{api.UNot, whole(0), traps(none)},
		{api.UNot, float(0), traps(none)},
		{api.UInt, bitsFloat(floats.NaN), traps(api.TrapConv)},
		{api.UInt, float(inf), traps(api.TrapConv)},
		{api.UInt, float(-inf), traps(api.TrapConv)},
		{api.UInt, float(0x1p63), traps(api.TrapConv)},
		{api.UInt, float(math.Nextafter(0x1p63, 0)), has(whole(greatest - 1023))},
		{api.UInt, float(-0x1p63), has(whole(least))},
		{api.UInt, float(math.Nextafter(-0x1p63, -inf)), traps(api.TrapConv)},
		{api.UInt, float(2.75), has(whole(2))},
		{api.UInt, float(-2.75), has(whole(-2))},
		{api.UInt, float(-0.5), has(whole(0))},
		{api.UInt, bitsFloat(signBit), has(whole(0))},
		{api.UInt, whole(1), traps(none)},
		{api.UInt, truth(true), traps(none)},
		{api.UFloat, whole(0), has(float(0))},
		{api.UFloat, whole(-3), has(float(-3))},
		{api.UFloat, whole(1<<53 + 1), has(float(0x1p53))},
		{api.UFloat, whole(1<<53 + 3), has(float(0x1p53 + 4))},
		{api.UFloat, whole(greatest), has(float(0x1p63))},
		{api.UFloat, whole(greatest - 511), has(float(0x1p63))},
		{api.UFloat, whole(greatest - 512), has(float(math.Nextafter(0x1p63, 0)))},
		{api.UFloat, whole(least), has(float(-0x1p63))},
		{api.UFloat, float(1), traps(none)},
		{api.UFloat, truth(false), traps(none)},
	} {
		is(t, fmt.Sprint("Un ", c.op, c.a), un(c.op, c.a), c.want)
	}
}

func TestUnOfEachOperatorAndValue(t *testing.T) {
	for _, op := range append(unaries(), append(noOperators(), 5, 6, 13)...) {
		for _, a := range allValues() {
			is(t, fmt.Sprint("Un ", op, a), un(op, a), modelUn(op, a))
		}
	}
}

func TestUnOfManyValues(t *testing.T) {
	x := mixer(901)
	for range 20000 {
		op, a := pick(&x, unaries()), x.value()
		is(t, fmt.Sprint("Un ", op, a), un(op, a), modelUn(op, a))
	}
}

func TestUnOfWhatIsNoValue(t *testing.T) {
	for _, op := range append(unaries(), noOperators()...) {
		for _, a := range wrongValues() {
			is(t, fmt.Sprint("Un ", op, a), un(op, a), traps(none))
		}
	}
	for _, op := range append(noOperators(), 5) {
		for _, a := range rightValues() {
			is(t, fmt.Sprint("Un ", op, a), un(op, a), traps(none))
		}
	}
}

// P902.
func TestBinOfNamedInts(t *testing.T) {
	for _, c := range []struct {
		op   int
		a, b int64
		want outcome
	}{
		{api.BAdd, 2, 3, has(whole(5))},
		{api.BAdd, greatest, 0, has(whole(greatest))},
		{api.BAdd, greatest, least, has(whole(-1))},
		{api.BAdd, least, -1, traps(api.TrapOver)},
		{api.BAdd, least, least, traps(api.TrapOver)},
		{api.BSub, 2, 3, has(whole(-1))},
		{api.BSub, least, 1, traps(api.TrapOver)},
		{api.BSub, greatest, -1, traps(api.TrapOver)},
		{api.BSub, 0, least, traps(api.TrapOver)},
		{api.BSub, -1, least, has(whole(greatest))},
		{api.BMul, -4, 5, has(whole(-20))},
		{api.BMul, 1 << 62, 2, traps(api.TrapOver)},
		{api.BMul, 1 << 62, -2, has(whole(least))},
		{api.BMul, least, -1, traps(api.TrapOver)},
		{api.BMul, least, 0, has(whole(0))},
		{api.BMul, 1 << 32, 1 << 32, traps(api.TrapOver)},
		{api.BDiv, 7, -2, has(whole(-3))},
		{api.BDiv, -7, -2, has(whole(3))},
		{api.BDiv, 1, 0, traps(api.TrapZero)},
		{api.BDiv, 0, 0, traps(api.TrapZero)},
		{api.BDiv, least, 0, traps(api.TrapZero)},
		{api.BDiv, least, -1, traps(api.TrapOver)},
		{api.BDiv, greatest, -1, has(whole(-greatest))},
		{api.BDiv, least, 1, has(whole(least))},
		{api.BRem, 7, -2, has(whole(1))},
		{api.BRem, 5, 0, traps(api.TrapZero)},
		{api.BRem, least, -1, has(whole(0))},
		{api.BRem, least, greatest, has(whole(-1))},
		{api.BEq, 1, 1, has(truth(true))},
		{api.BEq, 1, -1, has(truth(false))},
		{api.BNe, least, greatest, has(truth(true))},
		{api.BNe, 4, 4, has(truth(false))},
		{api.BLt, -1, 0, has(truth(true))},
		{api.BLt, 0, -1, has(truth(false))},
		{api.BLt, least, greatest, has(truth(true))},
		{api.BLt, 3, 3, has(truth(false))},
		{api.BLe, 3, 3, has(truth(true))},
		{api.BLe, greatest, least, has(truth(false))},
		{api.BGt, greatest, least, has(truth(true))},
		{api.BGt, 3, 3, has(truth(false))},
		{api.BGe, 3, 3, has(truth(true))},
		{api.BGe, least, greatest, has(truth(false))},
		{api.BAnd, 1, 1, traps(none)},
		{api.BOr, 0, 1, traps(none)},
	} {
		is(t, fmt.Sprint("Bin ", c.op, " ", c.a, " ", c.b), bin(c.op, whole(c.a), whole(c.b)), c.want)
	}
}

func TestBinComparesFloats(t *testing.T) {
	inf, nan := math.Inf(1), math.NaN()
	minusZero := math.Copysign(0, -1)
	for _, c := range []struct {
		a, b                   float64
		eq, ne, lt, le, gt, ge bool
	}{
		{1, 2, false, true, true, true, false, false},
		{2, 1, false, true, false, false, true, true},
		{1.5, 1.5, true, false, false, true, false, true},
		{0, minusZero, true, false, false, true, false, true},
		{minusZero, 0, true, false, false, true, false, true},
		{-inf, inf, false, true, true, true, false, false},
		{inf, inf, true, false, false, true, false, true},
		{inf, math.MaxFloat64, false, true, false, false, true, true},
		{nan, nan, false, true, false, false, false, false},
		{nan, 1, false, true, false, false, false, false},
		{1, nan, false, true, false, false, false, false},
		{nan, inf, false, true, false, false, false, false},
		{-inf, nan, false, true, false, false, false, false},
		{nan, 0, false, true, false, false, false, false},
	} {
		for op, want := range map[int]bool{api.BEq: c.eq, api.BNe: c.ne, api.BLt: c.lt, api.BLe: c.le, api.BGt: c.gt, api.BGe: c.ge} {
			is(t, fmt.Sprint("Bin ", op, " ", c.a, " ", c.b), bin(op, float(c.a), float(c.b)), has(truth(want)))
		}
	}
}

func TestBinOfNamedFloats(t *testing.T) {
	inf, nan := math.Inf(1), math.NaN()
	minusZero := math.Copysign(0, -1)
	for _, c := range []struct {
		op         int
		a, b, want float64
	}{
		{api.BAdd, 0.1, 0.2, 0.30000000000000004},
		{api.BAdd, inf, -inf, nan},
		{api.BAdd, minusZero, minusZero, minusZero},
		{api.BAdd, 0, minusZero, 0},
		{api.BAdd, math.MaxFloat64, math.MaxFloat64, inf},
		{api.BSub, 1, 0.5, 0.5},
		{api.BSub, inf, inf, nan},
		{api.BMul, 1.5, -2, -3},
		{api.BMul, 0, inf, nan},
		{api.BMul, 1e300, 1e300, inf},
		{api.BDiv, 1, minusZero, -inf},
		{api.BDiv, 0, 0, nan},
		{api.BDiv, -1, 0, -inf},
		{api.BDiv, 7, 2, 3.5},
		{api.BDiv, nan, 0, nan},
	} {
		is(t, fmt.Sprint("Bin ", c.op, " ", c.a, " ", c.b), bin(c.op, float(c.a), float(c.b)), has(float(c.want)))
	}
	is(t, "Bin BRem of floats", bin(api.BRem, float(7), float(2)), traps(none))
	is(t, "Bin BAnd of floats", bin(api.BAnd, float(1), float(1)), traps(none))
}

func TestBinOfBools(t *testing.T) {
	for _, c := range []struct {
		a, b, eq, ne, and, or bool
	}{
		{false, false, true, false, false, false},
		{false, true, false, true, false, true},
		{true, false, false, true, false, true},
		{true, true, true, false, true, true},
	} {
		for op, want := range map[int]bool{api.BEq: c.eq, api.BNe: c.ne, api.BAnd: c.and, api.BOr: c.or} {
			is(t, fmt.Sprint("Bin ", op, " ", c.a, " ", c.b), bin(op, truth(c.a), truth(c.b)), has(truth(want)))
		}
		for _, op := range []int{api.BAdd, api.BSub, api.BMul, api.BDiv, api.BRem, api.BLt, api.BLe, api.BGt, api.BGe} {
			is(t, fmt.Sprint("Bin ", op, " ", c.a, " ", c.b), bin(op, truth(c.a), truth(c.b)), traps(none))
		}
	}
}

func TestBinOfEachOperatorAndPair(t *testing.T) {
	values := allValues()
	for _, op := range append(binaries(), noOperators()...) {
		for _, a := range values {
			for _, b := range values {
				if got, want := bin(op, a, b), modelBin(op, a, b); got != want {
					t.Errorf("Bin %d %v %v: %v, not %v", op, a, b, got, want)
				}
			}
		}
	}
}

func TestBinOfManyValues(t *testing.T) {
	x := mixer(902)
	for range 100000 {
		op, a, b := pick(&x, binaries()), x.value(), x.value()
		if x.below(3) > 0 {
			b.Type = a.Type
		}
		is(t, fmt.Sprint("Bin ", op, a, b), bin(op, a, b), modelBin(op, a, b))
	}
}

func TestBinOfWhatIsNoValue(t *testing.T) {
	for _, op := range append(binaries(), noOperators()...) {
		for _, wrong := range wrongValues() {
			for _, right := range []api.Value{whole(1), float(1), truth(true)} {
				is(t, fmt.Sprint("Bin ", op, wrong, right), bin(op, wrong, right), traps(none))
				is(t, fmt.Sprint("Bin ", op, right, wrong), bin(op, right, wrong), traps(none))
			}
			is(t, fmt.Sprint("Bin ", op, wrong, wrong), bin(op, wrong, wrong), traps(none))
		}
	}
}

func TestBinOfNoOperator(t *testing.T) {
	for _, op := range noOperators() {
		for _, a := range []api.Value{whole(1), float(1), truth(true)} {
			is(t, fmt.Sprint("Bin ", op, a, a), bin(op, a, a), traps(none))
		}
	}
}

// P903.
func TestErrno(t *testing.T) {
	is(t, "0", fold.Errno(0), api.OK)
	is(t, "TrapOver", fold.Errno(api.TrapOver), api.ErrRange)
	is(t, "TrapZero", fold.Errno(api.TrapZero), api.ErrZero)
	is(t, "TrapConv", fold.Errno(api.TrapConv), api.ErrConv)
	for _, trap := range []int{-1, -2, -3, api.TrapInput, api.TrapDeep, api.TrapFail, api.TrapTrace, 8, 80, 256, 257, 1 << 32, 1<<32 + 1, math.MinInt, math.MinInt + 1, math.MaxInt} {
		is(t, fmt.Sprint(trap), fold.Errno(trap), api.ErrType)
	}
}
