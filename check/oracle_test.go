package check_test

import (
	"slices"
	"strings"

	"foundry/api"
	"foundry/check"
	"foundry/fold"
	"foundry/iface"
	"foundry/tree"
)

// A model of the chapter's words. It has no scopes: what gives a local name is noted for good, with the block in which it stands, and a name is visible where that block is one of those that the place stands in.

// letters: the types, each at its number.
const letters = "-ifb"

// modelUnary, modelBinary: by pairs of letters: what an operator takes, and what it makes of that.
func modelUnary(op, a int) (int, api.Errno) {
	pairs := [...]string{api.UNeg: "ii ff", api.UNot: "bb", api.UInt: "fi", api.UFloat: "if"}
	return inPairs(pairs[op], a)
}

func modelBinary(op, a, b int) (int, api.Errno) {
	pairs := [...]string{
		api.BAdd: "ii ff", api.BSub: "ii ff", api.BMul: "ii ff", api.BDiv: "ii ff", api.BRem: "ii", api.BEq: "ib fb bb", api.BNe: "ib fb bb",
		api.BLt: "ib fb", api.BLe: "ib fb", api.BGt: "ib fb", api.BGe: "ib fb", api.BAnd: "bb", api.BOr: "bb",
	}
	if a != b {
		return 0, api.ErrType
	}
	return inPairs(pairs[op], a)
}

func inPairs(pairs string, a int) (int, api.Errno) {
	for at := 0; at < len(pairs); at += len("ii ") {
		if pairs[at] == letters[a] {
			return strings.IndexByte(letters, pairs[at+1]), api.OK
		}
	}
	return 0, api.ErrType
}

// giver: a parameter, a let or a catch, and the block in which its name is visible from there on.
type giver struct {
	name       string
	typ, block int
}

type modelFn struct {
	m      api.Module
	given  []api.Iface // of the imports
	result int
	givers []giver
	blocks int
}

// modelCheck: what Check has to answer.
func modelCheck(m api.Module, l []api.Iface) (check.Info, int, api.Errno) {
	if code := tree.Right(m); code != api.OK {
		return check.Info{}, 0, code
	}
	count := map[string]int{m.Name: 1}
	for _, name := range m.Imports {
		count[name]++
		if count[name] > 1 {
			return check.Info{}, 0, api.ErrTwice
		}
	}
	shown, at, code := iface.Extract(m, l)
	if code == api.ErrImport {
		return check.Info{}, at, code
	}
	for at, d := range m.Decls {
		if slices.Contains(m.Imports, d.Name) {
			return check.Info{}, at, api.ErrTwice
		}
	}
	if code != api.OK {
		return check.Info{}, at, code
	}
	given := modelGiven(m, l)
	consts, vars, _, _ := fold.Decls(m, fold.Far(given))
	info := check.Info{Iface: shown, Consts: slices.Concat(consts, fold.Far(given)), Vars: vars}
	for at, d := range m.Decls {
		if d.Kind != api.DFn {
			continue
		}
		f := &modelFn{m: m, given: given, result: d.Type}
		if code := f.fn(d); code != api.OK {
			return check.Info{}, at, code
		}
		var slots []int
		for _, g := range f.givers {
			slots = append(slots, g.typ)
		}
		info.Slots = append(info.Slots, slots)
	}
	return info, 0, api.OK
}

// modelGiven: of each import the first interface with its name.
func modelGiven(m api.Module, l []api.Iface) []api.Iface {
	first := map[string]api.Iface{}
	for _, f := range slices.Backward(l) {
		first[f.Name] = f
	}
	var given []api.Iface
	for _, name := range m.Imports {
		given = append(given, first[name])
	}
	return given
}

// modelType: what Type has to answer.
func modelType(m api.Module, l []api.Iface, e api.Expr) (int, api.Errno) {
	if _, _, code := modelCheck(m, l); code != api.OK {
		return 0, code
	}
	if code := tree.RightExpr(e); code != api.OK {
		return 0, code
	}
	f := &modelFn{m: m, given: modelGiven(m, l)}
	return f.expr(e, nil)
}

// modelEnds: an if or a try ends where each of its blocks is one that ends.
func modelEnds(l []api.Stmt) bool {
	for len(l) > 0 {
		last := l[len(l)-1]
		switch last.Kind {
		case api.SReturn, api.SFail:
			return true
		case api.SIf, api.STry:
			if !modelEnds(last.Else) {
				return false
			}
			l = last.Body
		default:
			return false
		}
	}
	return false
}

// decl: the declaration of that name.
func (f *modelFn) decl(name string) (api.Decl, bool) {
	for _, d := range f.m.Decls {
		if d.Name == name {
			return d, true
		}
	}
	return api.Decl{}, false
}

func (f *modelFn) isOuter(name string) bool {
	_, there := f.decl(name)
	return there || slices.Contains(f.m.Imports, name)
}

func (f *modelFn) local(name string, blocks []int) (int, bool) {
	for _, g := range f.givers {
		if g.name == name && slices.Contains(blocks, g.block) {
			return g.typ, true
		}
	}
	return 0, false
}

func (f *modelFn) give(name string, typ int, blocks []int) api.Errno {
	_, local := f.local(name, blocks)
	switch {
	case local || f.isOuter(name):
		return api.ErrTwice
	case len(f.givers) == 64:
		return api.ErrBig
	}
	f.givers = append(f.givers, giver{name, typ, blocks[len(blocks)-1]})
	return api.OK
}

// deeper: the blocks that a place stands in, and a new one.
func (f *modelFn) deeper(blocks []int) []int {
	f.blocks++
	return append(slices.Clone(blocks), f.blocks)
}

func (f *modelFn) fn(d api.Decl) api.Errno {
	whole := f.deeper(nil)
	for at, p := range d.Params {
		earlier := func(other api.Param) bool { return other.Name == p.Name }
		if f.isOuter(p.Name) || slices.ContainsFunc(d.Params[:at], earlier) {
			return api.ErrTwice
		}
		f.givers = append(f.givers, giver{p.Name, p.Type, whole[0]})
	}
	if code := f.block(d.Body, whole); code != api.OK {
		return code
	}
	if d.Type != api.TNone && !modelEnds(d.Body) {
		return api.ErrReturn
	}
	return api.OK
}

func (f *modelFn) block(l []api.Stmt, blocks []int) api.Errno {
	blocks = f.deeper(blocks)
	for _, s := range l {
		if code := f.stmt(s, blocks); code != api.OK {
			return code
		}
	}
	return api.OK
}

// firstOf: the first error of those that are asked one after the other.
func firstOf(asked ...func() api.Errno) api.Errno {
	for _, ask := range asked {
		if code := ask(); code != api.OK {
			return code
		}
	}
	return api.OK
}

func (f *modelFn) stmt(s api.Stmt, blocks []int) api.Errno {
	typ := 0
	if s.Kind != api.STry && s.Kind != api.SSet && s.Kind != api.SReturn {
		var code api.Errno
		if typ, code = f.expr(s.E[0], blocks); code != api.OK {
			return code
		}
	}
	body := func() api.Errno { return f.block(s.Body, blocks) }
	switch s.Kind {
	case api.SLet:
		if typ == api.TNone {
			return api.ErrType
		}
		return f.give(s.Name, typ, blocks)
	case api.SIf, api.SWhile:
		if typ != api.TBool {
			return api.ErrType
		}
		return firstOf(body, func() api.Errno { return f.block(s.Else, blocks) })
	case api.SShow:
		return f.fits(typ != api.TNone)
	case api.SFail:
		return f.fits(typ == api.TInt)
	case api.SSet:
		return f.set(s, blocks)
	case api.SReturn:
		return f.returned(s, blocks)
	case api.STry:
		inner := f.deeper(blocks)
		return firstOf(body, func() api.Errno { return f.give(s.Name, api.TInt, inner) }, func() api.Errno { return f.block(s.Else, inner) })
	}
	return api.OK
}

func (f *modelFn) fits(it bool) api.Errno {
	if it {
		return api.OK
	}
	return api.ErrType
}

func (f *modelFn) set(s api.Stmt, blocks []int) api.Errno {
	want, local := f.local(s.Name, blocks)
	if !local && !f.isOuter(s.Name) {
		return api.ErrUnknown
	}
	if !local {
		d, _ := f.decl(s.Name)
		if d.Kind != api.DVar {
			return api.ErrType
		}
		want = d.Type
	}
	typ, code := f.expr(s.E[0], blocks)
	if code != api.OK {
		return code
	}
	return f.fits(typ == want)
}

func (f *modelFn) returned(s api.Stmt, blocks []int) api.Errno {
	switch {
	case f.result == api.TNone && len(s.E) == 0:
		return api.OK
	case f.result == api.TNone || len(s.E) == 0:
		return api.ErrType
	}
	typ, code := f.expr(s.E[0], blocks)
	if code != api.OK {
		return code
	}
	return f.fits(typ == f.result)
}

func (f *modelFn) expr(e api.Expr, blocks []int) (int, api.Errno) {
	switch e.Kind {
	case api.ELit:
		return e.Value.Type, api.OK
	case api.EInput:
		return api.TInt, api.OK
	case api.EName:
		return f.name(e.Name, blocks)
	case api.EFar, api.EFarCall:
		item, there := f.far(e.Mod, e.Name)
		if !there {
			return 0, api.ErrUnknown
		}
		if (item.Kind == api.DFn) != (e.Kind == api.EFarCall) {
			return 0, api.ErrType
		}
		return f.args(e, item.Params, item.Type, blocks)
	case api.ECall:
		return f.call(e, blocks)
	}
	var kids []int
	for _, kid := range e.Kids {
		typ, code := f.expr(kid, blocks)
		if code != api.OK {
			return 0, code
		}
		kids = append(kids, typ)
	}
	if e.Kind == api.EUn {
		return modelUnary(e.Op, kids[0])
	}
	return modelBinary(e.Op, kids[0], kids[1])
}

func (f *modelFn) name(name string, blocks []int) (int, api.Errno) {
	if typ, local := f.local(name, blocks); local {
		return typ, api.OK
	}
	d, there := f.decl(name)
	switch {
	case there && d.Kind != api.DFn:
		return d.Type, api.OK
	case f.isOuter(name):
		return 0, api.ErrType
	}
	return 0, api.ErrUnknown
}

// far: an item that an import shows.
func (f *modelFn) far(mod, name string) (api.Item, bool) {
	for _, g := range f.given {
		for _, i := range g.Items {
			if g.Name == mod && i.Name == name {
				return i, true
			}
		}
	}
	return api.Item{}, false
}

func (f *modelFn) call(e api.Expr, blocks []int) (int, api.Errno) {
	if _, local := f.local(e.Name, blocks); local {
		return 0, api.ErrType
	}
	if !f.isOuter(e.Name) {
		return 0, api.ErrUnknown
	}
	d, _ := f.decl(e.Name)
	if d.Kind != api.DFn {
		return 0, api.ErrType
	}
	var params []int
	for _, p := range d.Params {
		params = append(params, p.Type)
	}
	return f.args(e, params, d.Type, blocks)
}

// args: the type of a call, or the first error of its arguments.
func (f *modelFn) args(e api.Expr, params []int, result int, blocks []int) (int, api.Errno) {
	if len(e.Kids) != len(params) {
		return 0, api.ErrCount
	}
	for at, kid := range e.Kids {
		typ, code := f.expr(kid, blocks)
		if code != api.OK {
			return 0, code
		}
		if typ != params[at] {
			return 0, api.ErrType
		}
	}
	return result, api.OK
}
