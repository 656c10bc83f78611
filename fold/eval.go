package fold

import (
	"foundry/api"
	"foundry/tree"
	"foundry/types"
)

// trapped is what goes up from an operation that has no value, fault from a part that a constant expression may not have. Types of their own tell them from all else that may panic.
type (
	trapped struct{ trap int }
	fault   struct{ code api.Errno }
)

// Eval: the expression's value with these constants, or the first error from the left.
func Eval(e api.Expr, l []Const) (value api.Value, code api.Errno) {
	if wrong := tree.RightExpr(e); wrong != api.OK {
		return api.Value{}, wrong
	}
	defer func() {
		switch p := recover().(type) {
		case nil:
		case trapped:
			code = Errno(p.trap)
		case fault:
			code = p.code
		default:
			panic(p)
		}
	}()
	return valueOf(e, l), api.OK
}

func valueOf(e api.Expr, l []Const) api.Value {
	switch e.Kind {
	case api.EName, api.EFar:
		return named(e.Mod, e.Name, l)
	case api.ECall, api.EFarCall, api.EInput:
		// An argument is a part of the call, so that its own error comes first.
		for _, kid := range e.Kids {
			valueOf(kid, l)
		}
		panic(fault{api.ErrConst})
	case api.EUn:
		return untrapped(Un(e.Op, valueOf(e.Kids[0], l)))
	case api.EBin:
		return ofTwo(e.Op, e.Kids[0], e.Kids[1], l)
	}
	return e.Value
}

// named: the value of the first constant of that name; only this one has to be right.
func named(mod, name string, l []Const) api.Value {
	for _, c := range l {
		if c.Mod != mod || c.Name != name {
			continue
		}
		if !types.Right(c.Value) {
			panic(fault{api.ErrType})
		}
		return c.Value
	}
	panic(fault{api.ErrUnknown})
}

// untrapped lets the value through, and the trap go up.
func untrapped(v api.Value, trap int) api.Value {
	if trap != noTrap {
		panic(trapped{trap})
	}
	return v
}

func ofTwo(op int, left, right api.Expr, l []Const) api.Value {
	a := valueOf(left, l)
	if decides(op, a) {
		return a
	}
	return untrapped(Bin(op, a, valueOf(right, l)))
}

// decides: is the left side the answer already, so that the right one is not asked?
func decides(op int, left api.Value) bool {
	switch op {
	case api.BAnd:
		return !isTrue(left)
	case api.BOr:
		return isTrue(left)
	}
	return false
}

func isTrue(v api.Value) bool {
	if v.Type != api.TBool {
		panic(fault{api.ErrType})
	}
	return v.Bits == 1
}
