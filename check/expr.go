package check

import (
	"foundry/api"
	"foundry/types"
)

// mustBe: the expression is of that type.
func (f *function) mustBe(e api.Expr, typ int) {
	f.must(f.typeOf(e) == typ, api.ErrType)
}

// someType: the type of an expression that has a result.
func (f *function) someType(e api.Expr) int {
	typ := f.typeOf(e)
	f.must(typ != api.TNone, api.ErrType)
	return typ
}

// typeOf: the type of an expression; TNone of a call without a result.
func (f *function) typeOf(e api.Expr) int {
	switch e.Kind {
	case api.EName:
		return f.named(e.Name, api.DConst, api.DVar)
	case api.EFar:
		return f.farItem(e.Mod, e.Name, api.DConst).Type
	case api.ECall:
		return f.called(f.ownFn(e.Name), e.Kids)
	case api.EFarCall:
		return f.called(f.farItem(e.Mod, e.Name, api.DFn), e.Kids)
	case api.EUn:
		return f.made(types.Unary(e.Op, f.typeOf(e.Kids[0])))
	case api.EBin:
		left := f.typeOf(e.Kids[0])
		right := f.typeOf(e.Kids[1])
		return f.made(types.Binary(e.Op, left, right))
	case api.EInput:
		return api.TInt
	}
	return e.Value.Type
}

// made lets the type through, and the error give up.
func (f *function) made(typ int, code api.Errno) int {
	f.must(code == api.OK, code)
	return typ
}

// farItem: what an import shows under that name; it has to be of that kind.
func (f *function) farItem(mod, name string, kind int) api.Item {
	item, there := types.Get(f.far[mod], name)
	f.must(there, api.ErrUnknown)
	f.must(item.Kind == kind, api.ErrType)
	return item
}

// ownFn: the function of the module under that name.
func (f *function) ownFn(name string) api.Item {
	_, local := f.local(name)
	item, outer := f.outer[name]
	f.must(local || outer, api.ErrUnknown)
	f.must(item.Kind == api.DFn, api.ErrType)
	return item
}

// called: the type of a call of the function. How many arguments there are is asked ahead of what they are.
func (f *function) called(fn api.Item, args []api.Expr) int {
	f.must(len(args) == len(fn.Params), api.ErrCount)
	for at, arg := range args {
		f.mustBe(arg, fn.Params[at])
	}
	return fn.Type
}
