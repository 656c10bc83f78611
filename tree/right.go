package tree

import (
	"foundry/api"
	"foundry/floats"
	"foundry/names"
)

// signBit: no literal has it, since `-` ahead of one is an operator.
const signBit = 1 << 63

// fault is what gives up: a type of its own tells it from all else that may panic.
type fault struct{ code api.Errno }

func (f fault) Error() string {
	return f.code.Error()
}

// must gives up unless what is asked holds.
func must(holds bool, code api.Errno) {
	if !holds {
		panic(fault{code})
	}
}

func mustName(s string) {
	e := names.Right(s)
	must(e == api.OK, e)
}

// faultOf: what look gave up by, OK if it did not.
func faultOf(look func()) (code api.Errno) {
	defer func() {
		switch p := recover().(type) {
		case nil:
		case fault:
			code = p.code
		default:
			panic(p)
		}
	}()
	look()
	return api.OK
}

// Right: OK if the module is right, or the first thing that is wrong in it.
func Right(m api.Module) api.Errno {
	return faultOf(func() { lookAtModule(m) })
}

// RightExpr: the same of an expression by itself.
func RightExpr(e api.Expr) api.Errno {
	return faultOf(func() {
		must(exprDepth(e, lowest, 0) <= api.MaxDepth, api.ErrDeep)
		lookAtExpr(e)
	})
}

func lookAtModule(m api.Module) {
	mustName(m.Name)
	must(len(m.Imports) <= api.MaxImports, api.ErrBig)
	for _, name := range m.Imports {
		mustName(name)
	}
	must(len(m.Decls) <= api.MaxItems, api.ErrBig)
	for _, d := range m.Decls {
		lookAtDecl(d)
	}
}

func lookAtDecl(d api.Decl) {
	must(declDepth(d) <= api.MaxDepth, api.ErrDeep)
	must(declFits(d), api.ErrArg)
	mustName(d.Name)
	must(len(d.Params) <= api.MaxParams, api.ErrBig)
	for _, p := range d.Params {
		mustName(p.Name)
		must(isType(p.Type), api.ErrArg)
	}
	lookAtExprs(d.E)
	lookAtBlock(d.Body)
}

// declFits: has the declaration just what its kind has?
func declFits(d api.Decl) bool {
	switch d.Kind {
	case api.DConst:
		return isType(d.Type) && len(d.E) == 1 && len(d.Params) == 0 && len(d.Body) == 0
	case api.DVar:
		return !d.Export && isType(d.Type) && len(d.E) == 1 && len(d.Params) == 0 && len(d.Body) == 0
	case api.DFn:
		return (d.Type == api.TNone || isType(d.Type)) && len(d.E) == 0
	}
	return false
}

// isType: is it the type of a value?
func isType(t int) bool {
	switch t {
	case api.TInt, api.TFloat, api.TBool:
		return true
	}
	return false
}

func lookAtBlock(block []api.Stmt) {
	for _, s := range block {
		lookAtStmt(s)
	}
}

func lookAtStmt(s api.Stmt) {
	must(stmtFits(s), api.ErrArg)
	switch s.Kind {
	case api.SLet, api.SSet, api.STry:
		mustName(s.Name)
	}
	lookAtExprs(s.E)
	lookAtBlock(s.Body)
	lookAtBlock(s.Else)
}

// stmtFits: has the statement just what its kind has? What it has is taken away, so that nothing may be left.
func stmtFits(s api.Stmt) bool {
	one := len(s.E) == 1
	fits := one
	switch s.Kind {
	case api.SLet, api.SSet:
		s.Name = ""
	case api.SIf:
		s.Body, s.Else = nil, nil
	case api.SWhile:
		s.Body = nil
	case api.SReturn:
		fits = one || len(s.E) == 0
	case api.SShow, api.SFail:
	case api.STry:
		fits = len(s.E) == 0
		s.Name, s.Body, s.Else = "", nil, nil
	case api.SDo:
		fits = one && isCall(s.E[0])
	default:
		fits = false
	}
	return fits && s.Name == "" && len(s.Body) == 0 && len(s.Else) == 0
}

func isCall(e api.Expr) bool {
	switch e.Kind {
	case api.ECall, api.EFarCall:
		return true
	}
	return false
}

func lookAtExprs(l []api.Expr) {
	for _, e := range l {
		lookAtExpr(e)
	}
}

func lookAtExpr(e api.Expr) {
	must(exprFits(e), api.ErrArg)
	switch e.Kind {
	case api.EName, api.ECall:
		mustName(e.Name)
	case api.EFar, api.EFarCall:
		mustName(e.Mod)
		mustName(e.Name)
	}
	must(len(e.Kids) <= api.MaxParams, api.ErrBig)
	lookAtExprs(e.Kids)
}

// exprFits: has the expression just what its kind has? What it has is taken away, so that nothing may be left.
func exprFits(e api.Expr) bool {
	fits := true
	switch e.Kind {
	case api.ELit:
		fits = isLiteral(e.Value)
		e.Value = api.Value{}
	case api.EName:
		e.Name = ""
	case api.EFar:
		e.Mod, e.Name = "", ""
	case api.ECall:
		e.Name, e.Kids = "", nil
	case api.EFarCall:
		e.Mod, e.Name, e.Kids = "", "", nil
	case api.EUn:
		fits = api.UNeg <= e.Op && e.Op <= api.UFloat && len(e.Kids) == 1
		e.Op, e.Kids = 0, nil
	case api.EBin:
		fits = api.BAdd <= e.Op && e.Op <= api.BOr && len(e.Kids) == 2
		e.Op, e.Kids = 0, nil
	case api.EInput:
	default:
		fits = false
	}
	return fits && e.Op == 0 && e.Mod == "" && e.Name == "" && e.Value == api.Value{} && len(e.Kids) == 0
}

// isLiteral: is there a literal of that value?
func isLiteral(v api.Value) bool {
	switch v.Type {
	case api.TInt:
		return v.Bits < signBit
	case api.TFloat:
		return v.Bits < signBit && floats.Canon(v.Bits) == v.Bits
	case api.TBool:
		return v.Bits <= 1
	}
	return false
}
