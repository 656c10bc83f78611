package fold

import (
	"foundry/api"
	"foundry/floats"
	"foundry/ints"
	"foundry/types"
)

// Un: what the operator makes of the value, and the trap; with a trap, or -1 for no such operation, the zero value.
func Un(op int, a api.Value) (api.Value, int) {
	if _, e := types.Unary(op, a.Type); e != api.OK || !types.Right(a) {
		return api.Value{}, noOperation
	}
	switch op {
	case api.UNeg:
		return negative(a)
	case api.UNot:
		return truth(a.Bits == 0), noTrap
	case api.UInt:
		return whole(floats.ToInt(a.Bits))
	}
	return float(floats.FromInt(int64(a.Bits))), noTrap
}

func negative(a api.Value) (api.Value, int) {
	if a.Type == api.TFloat {
		return float(floats.Neg(a.Bits)), noTrap
	}
	return whole(ints.Neg(int64(a.Bits)))
}

// Bin: what the operator makes of the two values, and the trap; with a trap, or -1 for no such operation, the zero value.
func Bin(op int, a, b api.Value) (api.Value, int) {
	if _, e := types.Binary(op, a.Type, b.Type); e != api.OK || !types.Right(a) || !types.Right(b) {
		return api.Value{}, noOperation
	}
	switch a.Type {
	case api.TInt:
		return ofInts(op, int64(a.Bits), int64(b.Bits))
	case api.TFloat:
		return ofFloats(op, a.Bits, b.Bits), noTrap
	}
	return ofBools(op, a.Bits == 1, b.Bits == 1), noTrap
}

func ofInts(op int, a, b int64) (api.Value, int) {
	switch op {
	case api.BAdd:
		return whole(ints.Add(a, b))
	case api.BSub:
		return whole(ints.Sub(a, b))
	case api.BMul:
		return whole(ints.Mul(a, b))
	case api.BDiv:
		return whole(ints.Div(a, b))
	case api.BRem:
		return whole(ints.Rem(a, b))
	}
	return truth(intsAre(op, ints.Cmp(a, b))), noTrap
}

// intsAre: does the comparison hold of ints that stand to each other as order says?
func intsAre(op, order int) bool {
	switch op {
	case api.BEq:
		return order == 0
	case api.BNe:
		return order != 0
	case api.BLt:
		return order < 0
	case api.BLe:
		return order <= 0
	case api.BGt:
		return order > 0
	}
	return order >= 0
}

func ofFloats(op int, a, b uint64) api.Value {
	switch op {
	case api.BAdd:
		return float(floats.Add(a, b))
	case api.BSub:
		return float(floats.Sub(a, b))
	case api.BMul:
		return float(floats.Mul(a, b))
	case api.BDiv:
		return float(floats.Div(a, b))
	}
	return truth(floatsAre(op, a, b))
}

// floatsAre: does the comparison hold? None of them is another one turned round, but for BNe: with a NaN the rest are all false.
func floatsAre(op int, a, b uint64) bool {
	switch op {
	case api.BEq:
		return floats.Equal(a, b)
	case api.BNe:
		return !floats.Equal(a, b)
	case api.BLt:
		return floats.Less(a, b)
	case api.BLe:
		return floats.LessEq(a, b)
	case api.BGt:
		return floats.Less(b, a)
	}
	return floats.LessEq(b, a)
}

func ofBools(op int, a, b bool) api.Value {
	switch op {
	case api.BEq:
		return truth(a == b)
	case api.BNe:
		return truth(a != b)
	case api.BAnd:
		return truth(a && b)
	}
	return truth(a || b)
}

// whole: the int, or, of a reckoning that failed, its trap.
func whole(n int64, e api.Errno) (api.Value, int) {
	if e != api.OK {
		return api.Value{}, trapOf(e)
	}
	return api.Value{Type: api.TInt, Bits: uint64(n)}, noTrap
}

func float(bits uint64) api.Value {
	return api.Value{Type: api.TFloat, Bits: bits}
}

func truth(holds bool) api.Value {
	if holds {
		return api.Value{Type: api.TBool, Bits: 1}
	}
	return api.Value{Type: api.TBool}
}
