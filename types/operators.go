package types

import "foundry/api"

// made: what an operator makes of each type of values, by that type; TNone where it takes none of it.
type made [api.TBool + 1]int

// Unary: the type that the operator makes of a value of the type t.
func Unary(op, t int) (int, api.Errno) {
	operators := [...]made{
		api.UNeg:   {api.TInt: api.TInt, api.TFloat: api.TFloat},
		api.UNot:   {api.TBool: api.TBool},
		api.UInt:   {api.TFloat: api.TInt},
		api.UFloat: {api.TInt: api.TFloat},
	}
	if op < api.UNeg || op >= len(operators) {
		return api.TNone, api.ErrArg
	}
	return taken(operators[op], t)
}

// Binary: the type that the operator makes of values of the types a and b. No operator takes two of unlike types, so one of them is enough to look by.
func Binary(op, a, b int) (int, api.Errno) {
	number := made{api.TInt: api.TInt, api.TFloat: api.TFloat}
	likeness := made{api.TInt: api.TBool, api.TFloat: api.TBool, api.TBool: api.TBool}
	order := made{api.TInt: api.TBool, api.TFloat: api.TBool}
	truth := made{api.TBool: api.TBool}
	operators := [...]made{
		api.BAdd: number, api.BSub: number, api.BMul: number, api.BDiv: number,
		api.BRem: {api.TInt: api.TInt},
		api.BEq:  likeness, api.BNe: likeness,
		api.BLt: order, api.BLe: order, api.BGt: order, api.BGe: order,
		api.BAnd: truth, api.BOr: truth,
	}
	switch {
	case op < api.BAdd || op >= len(operators):
		return api.TNone, api.ErrArg
	case a != b:
		return api.TNone, api.ErrType
	}
	return taken(operators[op], a)
}

func taken(operator made, t int) (int, api.Errno) {
	if !ofValues(t) || operator[t] == api.TNone {
		return api.TNone, api.ErrType
	}
	return operator[t], api.OK
}
