package check

import (
	"slices"

	"foundry/api"
)

// scope: the types of the local names that one block gives.
type scope map[string]int

// function: what is asked of a function by all that stands in it; without scopes, of the module alone.
type function struct {
	module
	at     int // the declaration's number
	result int
	slots  []int
	scopes []scope // from the outermost on
}

// slotsOf: the types of the function's slots, if nothing is wrong with it.
func slotsOf(at int, d api.Decl, m module) []int {
	f := &function{module: m, at: at, result: d.Type}
	f.push()
	defer f.drop()
	for _, p := range d.Params {
		f.give(p.Name, p.Type)
	}
	f.lookAtBlock(d.Body)
	f.must(d.Type == api.TNone || Ends(d.Body), api.ErrReturn)
	return f.slots
}

func (f *function) must(holds bool, code api.Errno) {
	must(holds, f.at, code)
}

func (f *function) push() {
	f.scopes = append(f.scopes, scope{})
}

func (f *function) drop() {
	f.scopes = f.scopes[:len(f.scopes)-1]
}

// local: the type of a local name, and true. No two that are visible are alike, so that any order of scopes will do.
func (f *function) local(name string) (int, bool) {
	for _, s := range f.scopes {
		if typ, there := s[name]; there {
			return typ, true
		}
	}
	return api.TNone, false
}

// give: the name is a local one from here on to the end of the innermost scope, with a slot of its own.
func (f *function) give(name string, typ int) {
	_, local := f.local(name)
	_, outer := f.outer[name]
	f.must(!local && !outer, api.ErrTwice)
	f.must(len(f.slots) < api.MaxLocals, api.ErrBig)
	f.scopes[len(f.scopes)-1][name] = typ
	f.slots = append(f.slots, typ)
}

// named: the type of a local name, or of an outer one that is of one of the kinds.
func (f *function) named(name string, kinds ...int) int {
	if typ, there := f.local(name); there {
		return typ
	}
	item, there := f.outer[name]
	f.must(there, api.ErrUnknown)
	f.must(slices.Contains(kinds, item.Kind), api.ErrType)
	return item.Type
}

func (f *function) lookAtBlock(l []api.Stmt) {
	f.push()
	defer f.drop()
	for _, s := range l {
		f.lookAtStmt(s)
	}
}

// lookAtCatch: what a try does with the trap.
func (f *function) lookAtCatch(name string, l []api.Stmt) {
	f.push()
	defer f.drop()
	f.give(name, api.TInt)
	f.lookAtBlock(l)
}

func (f *function) lookAtStmt(s api.Stmt) {
	switch s.Kind {
	case api.SLet:
		typ := f.someType(s.E[0])
		f.give(s.Name, typ)
	case api.SSet:
		typ := f.named(s.Name, api.DVar)
		f.mustBe(s.E[0], typ)
	case api.SIf, api.SWhile:
		f.mustBe(s.E[0], api.TBool)
		f.lookAtBlock(s.Body)
		f.lookAtBlock(s.Else)
	case api.SReturn:
		f.lookAtReturn(s.E)
	case api.SShow:
		f.someType(s.E[0])
	case api.SFail:
		f.mustBe(s.E[0], api.TInt)
	case api.STry:
		f.lookAtBlock(s.Body)
		f.lookAtCatch(s.Name, s.Else)
	case api.SDo:
		f.typeOf(s.E[0])
	}
}

// lookAtReturn: whether there is an expression is asked ahead of what it is.
func (f *function) lookAtReturn(l []api.Expr) {
	f.must((f.result == api.TNone) == (len(l) == 0), api.ErrType)
	for _, e := range l {
		f.mustBe(e, f.result)
	}
}
