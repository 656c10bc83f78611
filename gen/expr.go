package gen

import "foundry/api"

// expr: code that puts the expression's value onto the stack; of a call without a result nothing.
func (f *function) expr(e api.Expr) {
	switch e.Kind {
	case api.ELit:
		f.addValue(e.Value)
	case api.EName:
		f.named(e.Name)
	case api.EFar:
		f.addValue(f.consts[f.at(e.Mod, e.Name)])
	case api.ECall, api.EFarCall:
		for _, arg := range e.Kids {
			f.expr(arg)
		}
		f.addOpen(opCall, f.at(e.Mod, e.Name))
	case api.EUn:
		f.expr(e.Kids[0])
		f.addWith(opUn, e.Op)
	case api.EBin:
		f.ofTwo(e.Op, e.Kids[0], e.Kids[1])
	case api.EInput:
		f.add(opInput)
	}
}

// named: a local name, a constant or a variable of the module.
func (f *function) named(name string) {
	slot, local := f.local(name)
	value, constant := f.consts[f.at("", name)]
	switch {
	case local:
		f.addWith(opGet, slot)
	case constant:
		f.addValue(value)
	default:
		f.addOpen(opLoad, f.at("", name))
	}
}

func (f *function) ofTwo(op int, left, right api.Expr) {
	f.expr(left)
	switch op {
	case api.BAnd:
		decided := f.addAhead(opUnless)
		f.expr(right)
		behind := f.addAhead(opJump)
		decided()
		f.addTruth(0)
		behind()
	case api.BOr:
		undecided := f.addAhead(opUnless)
		f.addTruth(1)
		behind := f.addAhead(opJump)
		undecided()
		f.expr(right)
		behind()
	default:
		f.expr(right)
		f.addWith(opBin, op)
	}
}
