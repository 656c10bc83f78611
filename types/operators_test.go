package types_test

import (
	"fmt"
	"math"
	"testing"

	"foundry/api"
	"foundry/types"
)

func isUnary(t *testing.T, op, typ, want int, e api.Errno) {
	t.Helper()
	if got, err := types.Unary(op, typ); got != want || err != e {
		t.Errorf("Unary of %d, %d: %d, %d, not %d, %d", op, typ, got, err, want, e)
	}
}

func isBinary(t *testing.T, op, a, b, want int, e api.Errno) {
	t.Helper()
	if got, err := types.Binary(op, a, b); got != want || err != e {
		t.Errorf("Binary of %d, %d, %d: %d, %d, not %d, %d", op, a, b, got, err, want, e)
	}
}

// noOps: numbers that are no operators, where last is the last one that is.
func noOps(last int) []int {
	return []int{0, -1, -2, last + 1, last + 2, 255, 256, 257, 1<<32 + 1, -1 << 32, math.MinInt, math.MinInt + 1, math.MaxInt, math.MaxInt - 1}
}

// F8.2

func TestUnaryOfEachOperatorAndType(t *testing.T) {
	for _, op := range []int{api.UNeg, api.UNot, api.UInt, api.UFloat} {
		for _, typ := range allTypes() {
			want, e := modelUnary(op, typ)
			isUnary(t, op, typ, want, e)
		}
	}
	isUnary(t, api.UNeg, api.TInt, api.TInt, api.OK)
	isUnary(t, api.UNeg, api.TFloat, api.TFloat, api.OK)
	isUnary(t, api.UNot, api.TBool, api.TBool, api.OK)
	isUnary(t, api.UInt, api.TFloat, api.TInt, api.OK)
	isUnary(t, api.UFloat, api.TInt, api.TFloat, api.OK)
}

func TestUnaryTakesNoOtherTypes(t *testing.T) {
	for op, l := range map[int][]int{
		api.UNeg:   {api.TBool},
		api.UNot:   {api.TInt, api.TFloat},
		api.UInt:   {api.TInt, api.TBool},
		api.UFloat: {api.TFloat, api.TBool},
	} {
		for _, typ := range append(l, noTypes()...) {
			isUnary(t, op, typ, 0, api.ErrType)
		}
	}
}

func TestUnaryOfNoOperator(t *testing.T) {
	for _, op := range noOps(api.UFloat) {
		for _, typ := range allTypes() {
			isUnary(t, op, typ, 0, api.ErrArg)
		}
	}
}

func TestBinaryOfEachOperatorAndPair(t *testing.T) {
	for op := api.BAdd; op <= api.BOr; op++ {
		for _, a := range allTypes() {
			for _, b := range allTypes() {
				want, e := modelBinary(op, a, b)
				isBinary(t, op, a, b, want, e)
			}
		}
	}
}

func TestBinaryTakesTwoOfOneType(t *testing.T) {
	for _, op := range []int{api.BAdd, api.BSub, api.BMul, api.BDiv} {
		isBinary(t, op, api.TInt, api.TInt, api.TInt, api.OK)
		isBinary(t, op, api.TFloat, api.TFloat, api.TFloat, api.OK)
		isBinary(t, op, api.TBool, api.TBool, 0, api.ErrType)
	}
	isBinary(t, api.BRem, api.TInt, api.TInt, api.TInt, api.OK)
	isBinary(t, api.BRem, api.TFloat, api.TFloat, 0, api.ErrType)
	isBinary(t, api.BRem, api.TBool, api.TBool, 0, api.ErrType)
	for _, typ := range valueTypes() {
		isBinary(t, api.BEq, typ, typ, api.TBool, api.OK)
		isBinary(t, api.BNe, typ, typ, api.TBool, api.OK)
	}
	for _, op := range []int{api.BLt, api.BLe, api.BGt, api.BGe} {
		isBinary(t, op, api.TInt, api.TInt, api.TBool, api.OK)
		isBinary(t, op, api.TFloat, api.TFloat, api.TBool, api.OK)
		isBinary(t, op, api.TBool, api.TBool, 0, api.ErrType)
	}
	for _, op := range []int{api.BAnd, api.BOr} {
		isBinary(t, op, api.TBool, api.TBool, api.TBool, api.OK)
		isBinary(t, op, api.TInt, api.TInt, 0, api.ErrType)
		isBinary(t, op, api.TFloat, api.TFloat, 0, api.ErrType)
	}
}

func TestBinaryTakesNoTwoOfUnlikeTypesAndNoTypesThatAreNone(t *testing.T) {
	for op := api.BAdd; op <= api.BOr; op++ {
		for _, a := range allTypes() {
			for _, b := range allTypes() {
				if a != b {
					isBinary(t, op, a, b, 0, api.ErrType)
				}
			}
		}
		for _, typ := range noTypes() {
			isBinary(t, op, typ, typ, 0, api.ErrType)
		}
	}
}

func TestBinaryOfNoOperator(t *testing.T) {
	for _, op := range noOps(api.BOr) {
		for _, a := range allTypes() {
			for _, b := range allTypes() {
				isBinary(t, op, a, b, 0, api.ErrArg)
			}
		}
	}
}

// P801

func TestBinaryDoesNotHangOnTheOrder(t *testing.T) {
	for _, op := range append(noOps(api.BOr), 1, 2, 3, 4, 5, 6, 7, 8, 9, 10, 11, 12, 13) {
		for _, a := range allTypes() {
			for _, b := range allTypes() {
				x, e := types.Binary(op, a, b)
				y, f := types.Binary(op, b, a)
				if x != y || e != f {
					t.Errorf("Binary of %d: %d, %d of %d, %d, but turned %d, %d", op, x, e, a, b, y, f)
				}
			}
		}
	}
}

func TestWhatOperatorsMake(t *testing.T) {
	for op := api.BAdd; op <= api.BOr; op++ {
		for _, typ := range valueTypes() {
			made, e := types.Binary(op, typ, typ)
			want := typ
			if op >= api.BEq {
				want = api.TBool
			}
			if e == api.OK {
				is(t, fmt.Sprint("Binary of ", op, typ), made, want)
			}
		}
	}
	for _, op := range []int{api.UNeg, api.UNot} {
		for _, typ := range valueTypes() {
			if made, e := types.Unary(op, typ); e == api.OK {
				is(t, fmt.Sprint("Unary of ", op, typ), made, typ)
			}
		}
	}
}

func TestExamplesOfOperators(t *testing.T) {
	isUnary(t, api.UNeg, api.TBool, 0, api.ErrType)
	isUnary(t, api.UInt, api.TFloat, api.TInt, api.OK)
	isUnary(t, 9, api.TInt, 0, api.ErrArg)
	isBinary(t, api.BRem, api.TFloat, api.TFloat, 0, api.ErrType)
	isBinary(t, api.BEq, api.TBool, api.TBool, api.TBool, api.OK)
	isBinary(t, api.BLt, api.TBool, api.TBool, 0, api.ErrType)
	isBinary(t, api.BAdd, api.TInt, api.TFloat, 0, api.ErrType)
}
