package fold_test

import (
	"math"
	"math/big"

	"foundry/api"
	"foundry/floats"
	"foundry/fold"
	"foundry/tree"
)

// A model of the chapter's words: whole numbers without bounds, floats of Go's, errors handed back one by one.

const none = -1

func modelRight(v api.Value) bool {
	x := math.Float64frombits(v.Bits)
	return v.Type == api.TInt || v.Type == api.TFloat && (x == x || v.Bits == floats.NaN) || v.Type == api.TBool && (v.Bits == 0 || v.Bits == 1)
}

// fits: the number as an int, if it is one of 64 bits.
func fits(n *big.Int) outcome {
	if !n.IsInt64() {
		return traps(api.TrapOver)
	}
	return has(whole(n.Int64()))
}

func modelUn(op int, a api.Value) outcome {
	x := math.Float64frombits(a.Bits)
	switch {
	case !modelRight(a):
		return traps(none)
	case op == api.UNeg && a.Type == api.TInt:
		return fits(new(big.Int).Neg(big.NewInt(int64(a.Bits))))
	case op == api.UNeg && a.Type == api.TFloat:
		return has(float(-x))
	case op == api.UNot && a.Type == api.TBool:
		return has(truth(a.Bits != 1))
	case op == api.UInt && a.Type == api.TFloat:
		if x != x || math.IsInf(x, 0) {
			return traps(api.TrapConv)
		}
		n, _ := new(big.Float).SetFloat64(x).Int(nil)
		if !n.IsInt64() {
			return traps(api.TrapConv)
		}
		return has(whole(n.Int64()))
	case op == api.UFloat && a.Type == api.TInt:
		near, _ := new(big.Float).SetInt64(int64(a.Bits)).Float64()
		return has(float(near))
	}
	return traps(none)
}

func modelBin(op int, a, b api.Value) outcome {
	if !modelRight(a) || !modelRight(b) || a.Type != b.Type {
		return traps(none)
	}
	switch a.Type {
	case api.TInt:
		return modelInts(op, big.NewInt(int64(a.Bits)), big.NewInt(int64(b.Bits)))
	case api.TFloat:
		return modelFloats(op, math.Float64frombits(a.Bits), math.Float64frombits(b.Bits))
	}
	return modelBools(op, a.Bits == 1, b.Bits == 1)
}

func modelInts(op int, a, b *big.Int) outcome {
	c := new(big.Int)
	switch {
	case op == api.BAdd:
		return fits(c.Add(a, b))
	case op == api.BSub:
		return fits(c.Sub(a, b))
	case op == api.BMul:
		return fits(c.Mul(a, b))
	case (op == api.BDiv || op == api.BRem) && b.Sign() == 0:
		return traps(api.TrapZero)
	case op == api.BDiv:
		return fits(c.Quo(a, b))
	case op == api.BRem:
		return fits(c.Rem(a, b))
	}
	return compared(op, a.Cmp(b) == 0, a.Cmp(b) < 0, a.Cmp(b) > 0)
}

func modelFloats(op int, a, b float64) outcome {
	switch op {
	case api.BAdd:
		return has(float(a + b))
	case api.BSub:
		return has(float(a - b))
	case api.BMul:
		return has(float(a * b))
	case api.BDiv:
		return has(float(a / b))
	}
	return compared(op, a == b, a < b, a > b)
}

func compared(op int, equal, less, more bool) outcome {
	switch op {
	case api.BEq:
		return has(truth(equal))
	case api.BNe:
		return has(truth(!equal))
	case api.BLt:
		return has(truth(less))
	case api.BLe:
		return has(truth(less || equal))
	case api.BGt:
		return has(truth(more))
	case api.BGe:
		return has(truth(more || equal))
	}
	return traps(none)
}

func modelBools(op int, a, b bool) outcome {
	switch op {
	case api.BEq:
		return has(truth(a == b))
	case api.BNe:
		return has(truth(a != b))
	case api.BAnd:
		return has(truth(a && b))
	case api.BOr:
		return has(truth(a || b))
	}
	return traps(none)
}

// modelErrno: the errors by their traps, in the chapter's order.
func modelErrno(trap int) api.Errno {
	for n, code := range []api.Errno{api.OK, api.ErrRange, api.ErrZero, api.ErrConv} {
		if n == trap {
			return code
		}
	}
	return api.ErrType
}

func modelEval(e api.Expr, l []fold.Const) result {
	if code := tree.RightExpr(e); code != api.OK {
		return fails(code)
	}
	return modelPart(e, l)
}

func modelPart(e api.Expr, l []fold.Const) result {
	var parts []result
	for at, kid := range e.Kids {
		if at == 1 && e.Kind == api.EBin && (e.Op == api.BAnd || e.Op == api.BOr) {
			left := parts[0].value
			if left.Type != api.TBool {
				return fails(api.ErrType)
			}
			if left == truth(e.Op == api.BOr) {
				return comesTo(left)
			}
		}
		part := modelPart(kid, l)
		if part.code != api.OK {
			return part
		}
		parts = append(parts, part)
	}
	switch e.Kind {
	case api.ELit:
		return comesTo(e.Value)
	case api.EName:
		return modelName("", e.Name, l)
	case api.EFar:
		return modelName(e.Mod, e.Name, l)
	case api.EUn:
		return asResult(modelUn(e.Op, parts[0].value))
	case api.EBin:
		return asResult(modelBin(e.Op, parts[0].value, parts[1].value))
	}
	return fails(api.ErrConst)
}

func asResult(o outcome) result {
	return result{o.value, modelErrno(o.trap)}
}

// modelName goes from the last one back, so that the first one is what stays.
func modelName(mod, name string, l []fold.Const) result {
	r := fails(api.ErrUnknown)
	for at := len(l) - 1; at >= 0; at-- {
		if l[at].Mod != mod || l[at].Name != name {
			continue
		}
		r = comesTo(l[at].Value)
		if !modelRight(l[at].Value) {
			r = fails(api.ErrType)
		}
	}
	return r
}

func modelDecls(m api.Module, far []fold.Const) (consts, vars []fold.Const, at int, code api.Errno) {
	for at, d := range m.Decls {
		for _, ahead := range m.Decls[:at] {
			if ahead.Name == d.Name {
				return nil, nil, at, api.ErrTwice
			}
		}
		isConst, isVar := d.Kind == api.DConst, d.Kind == api.DVar
		if !isConst && !isVar {
			continue
		}
		if len(d.E) != 1 {
			return nil, nil, at, api.ErrType
		}
		var l []fold.Const
		l = append(l, consts...)
		l = append(l, far...)
		r := modelEval(d.E[0], l)
		if r.code == api.OK && r.value.Type != d.Type {
			r.code = api.ErrType
		}
		if r.code != api.OK {
			return nil, nil, at, r.code
		}
		if isConst {
			consts = append(consts, own(d.Name, r.value))
		} else {
			vars = append(vars, own(d.Name, r.value))
		}
	}
	return consts, vars, 0, api.OK
}
