package tree

import "foundry/api"

// Levels of what is written: the higher, the tighter it holds together.
const (
	lowest   = 1 // nothing has to stand in parentheses
	orders   = 3 // comparisons
	signs    = 6 // what `-` and `!` take
	tightest = 7 // nothing ever stands in parentheses
)

// level: how tightly the text of an expression holds together.
func level(e api.Expr) int {
	switch e.Kind {
	case api.EUn:
		switch e.Op {
		case api.UNeg, api.UNot:
			return signs
		}
	case api.EBin:
		return levelOfTwo(e.Op)
	}
	return tightest
}

func levelOfTwo(op int) int {
	switch op {
	case api.BOr:
		return lowest
	case api.BAnd:
		return 2
	case api.BEq, api.BNe, api.BLt, api.BLe, api.BGt, api.BGe:
		return orders
	case api.BAdd, api.BSub:
		return 4
	case api.BMul, api.BDiv, api.BRem:
		return 5
	}
	return tightest
}

// kidPlace: the level at which the i-th of Kids stands in e, and how much deeper it is. The text and the depth both go by it, so that they can't part.
func kidPlace(e api.Expr, i int) (least, deeper int) {
	switch e.Kind {
	case api.ECall, api.EFarCall:
		return lowest, 1
	case api.EUn:
		switch e.Op {
		case api.UNeg, api.UNot:
			return signs, 1
		case api.UInt, api.UFloat:
			return lowest, 1
		}
	case api.EBin:
		return sideLevel(levelOfTwo(e.Op), i), 0
	}
	return lowest, 0
}

// sideLevel: the level at which the i-th of Kids stands in an operator of two that has such a level.
func sideLevel(own, i int) int {
	switch {
	case own == tightest:
		return lowest
	case i > 0, own == orders: // comparisons do not follow one another
		return own + 1
	}
	return own
}

// Depth: the greatest depth in the module, whether it is right or not.
func Depth(m api.Module) int {
	deepest := 0
	for _, d := range m.Decls {
		deepest = max(deepest, declDepth(d))
	}
	return deepest
}

func declDepth(d api.Decl) int {
	deepest := exprsDepth(d.E, 0)
	if d.Kind == api.DFn || len(d.Body) > 0 {
		deepest = max(deepest, blockDepth(d.Body, 1))
	}
	return deepest
}

// blockDepth: the greatest depth in a block that is at that one itself.
func blockDepth(block []api.Stmt, at int) int {
	deepest := at
	for _, s := range block {
		deepest = max(deepest, stmtDepth(s, at))
	}
	return deepest
}

func stmtDepth(s api.Stmt, at int) int {
	deepest := exprsDepth(s.E, at)
	if hasBody(s.Kind) || len(s.Body) > 0 {
		deepest = max(deepest, blockDepth(s.Body, at+1))
	}
	if s.Kind == api.STry || len(s.Else) > 0 {
		deepest = max(deepest, blockDepth(s.Else, at+1))
	}
	return deepest
}

// hasBody: does a statement of that kind have a block, though nothing may stand in it?
func hasBody(kind int) bool {
	switch kind {
	case api.SIf, api.SWhile, api.STry:
		return true
	}
	return false
}

func exprsDepth(l []api.Expr, at int) int {
	deepest := at
	for _, e := range l {
		deepest = max(deepest, exprDepth(e, lowest, at))
	}
	return deepest
}

// exprDepth: the greatest depth in an expression that stands at that level and depth.
func exprDepth(e api.Expr, least, at int) int {
	if level(e) < least {
		at++
	}
	deepest := at
	for i, kid := range e.Kids {
		kidLeast, deeper := kidPlace(e, i)
		deepest = max(deepest, exprDepth(kid, kidLeast, at+deeper))
	}
	return deepest
}
