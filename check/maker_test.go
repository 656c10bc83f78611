package check_test

import (
	"fmt"
	"slices"

	"foundry/api"
	"foundry/floats"
)

// mixer: numbers without a pattern, the same ones each time.
type mixer uint64

func (x *mixer) next() uint64 {
	*x += 0x9e3779b97f4a7c15
	z := uint64(*x)
	z = (z ^ z>>30) * 0xbf58476d1ce4e5b9
	z = (z ^ z>>27) * 0x94d049bb133111eb
	return z ^ z>>31
}

func (x *mixer) below(n int) int {
	return int(x.next() % uint64(n))
}

func pick[T any](x *mixer, l ...T) T {
	return l[x.below(len(l))]
}

func shuffle[T any](x *mixer, l []T) {
	for at := range l {
		other := at + x.below(len(l)-at)
		l[at], l[other] = l[other], l[at]
	}
}

// anyStmts: statements of any kind, most of which no module has.
func (x *mixer) anyStmts(size int) []api.Stmt {
	var l []api.Stmt
	for range x.below(3) {
		l = append(l, api.Stmt{Kind: x.below(11)})
	}
	if size == 0 || x.below(3) == 0 {
		return append(l, api.Stmt{Kind: pick(x, api.SReturn, api.SFail, api.SReturn, api.SShow)})
	}
	return append(l, api.Stmt{Kind: pick(x, api.SIf, api.STry, api.SIf, api.SWhile), Body: x.anyStmts(size - 1), Else: x.anyStmts(size - 1)})
}

// value: any value of the type.
func (x *mixer) value(typ int) api.Value {
	v := api.Value{Type: typ, Bits: uint64(x.below(2))}
	switch typ {
	case api.TInt:
		v.Bits = pick(x, 0, 1, 2, 7, 1<<63-1, signBit, 1<<64-1, x.next())
	case api.TFloat:
		v.Bits = pick(x, 0, 1, half, oneAndAHalf, signBit, floats.NaN, 0x7ff0000000000000, 0xfff0000000000000, floats.Canon(x.next()))
	}
	return v
}

// maker: makes modules that are right by their types, but that something goes astray now and then.
type maker struct {
	mixer
	astrayIn int // one thing in so many; 0: nothing ever
	m        api.Module
	given    []api.Iface
	consts   int // of the module's constants only so many may be named
	locals   []api.Param
	slots    int
	result   int
}

func (x *maker) astray() bool {
	return x.astrayIn > 0 && x.below(x.astrayIn) == 0
}

func one(e api.Expr) []api.Expr {
	return []api.Expr{e}
}

// anyName: of something, or of nothing.
func (x *maker) anyName() string {
	l := []string{"nobody", "m", "k", "l", "A", "v0", "f0", "f1"}
	for _, p := range x.locals {
		l = append(l, p.Name)
	}
	return pick(&x.mixer, l...)
}

// anyExpr: what need not fit.
func (x *maker) anyExpr(size int) api.Expr {
	switch x.below(7) {
	case 0:
		return api.Expr{Kind: api.EName, Name: x.anyName()}
	case 1:
		return api.Expr{Kind: api.EFar, Mod: pick(&x.mixer, "k", "l", "n", "m", "x"), Name: pick(&x.mixer, "A", "B", "C", "f", "g")}
	case 2:
		return api.Expr{Kind: api.ECall, Name: x.anyName(), Kids: x.anyArgs(size)}
	case 3:
		return api.Expr{Kind: api.EFarCall, Mod: pick(&x.mixer, "k", "l", "n", "m", "x"), Name: pick(&x.mixer, "A", "B", "f", "g", "h"), Kids: x.anyArgs(size)}
	case 4:
		return api.Expr{Kind: api.EUn, Op: 1 + x.below(4), Kids: one(x.expr(1+x.below(3), size-1))}
	case 5:
		return api.Expr{Kind: api.EBin, Op: 1 + x.below(13), Kids: []api.Expr{x.expr(1+x.below(3), size-1), x.expr(1+x.below(3), size-1)}}
	}
	return x.expr(1+x.below(3), size-1)
}

func (x *maker) anyArgs(size int) []api.Expr {
	var l []api.Expr
	for range x.below(4) {
		l = append(l, x.expr(1+x.below(3), size-1))
	}
	return l
}

// expr: an expression of the type (of TNone a call).
func (x *maker) expr(typ, size int) api.Expr {
	if x.astray() && size > -5 {
		return x.anyExpr(size)
	}
	if typ == api.TNone {
		return x.call(typ, size)
	}
	if size > 0 {
		switch x.below(4) {
		case 0, 1:
			return x.operation(typ, size)
		case 2:
			return x.call(typ, size)
		}
	}
	switch x.below(4) {
	case 0:
		if typ == api.TInt && x.below(3) == 0 {
			return api.Expr{Kind: api.EInput}
		}
		return x.literal(typ)
	default:
		return x.name(typ)
	}
}

func (x *maker) literal(typ int) api.Expr {
	v := x.value(typ)
	if typ != api.TBool && v.Bits >= signBit {
		v.Bits = 1
	}
	return api.Expr{Kind: api.ELit, Value: v}
}

// imported: the interfaces that count.
func (x *maker) imported() []api.Iface {
	var l []api.Iface
	for at, f := range x.given {
		ahead := slices.ContainsFunc(x.given[:at], func(g api.Iface) bool { return g.Name == f.Name })
		if slices.Contains(x.m.Imports, f.Name) && !ahead {
			l = append(l, f)
		}
	}
	return l
}

// constNames: those of the type that a constant expression may have.
func (x *maker) constNames(typ int) []api.Expr {
	var l []api.Expr
	for _, d := range x.m.Decls[:x.consts] {
		if d.Kind == api.DConst && d.Type == typ {
			l = append(l, api.Expr{Kind: api.EName, Name: d.Name})
		}
	}
	for _, f := range x.imported() {
		for _, i := range f.Items {
			if i.Kind == api.DConst && i.Type == typ {
				l = append(l, api.Expr{Kind: api.EFar, Mod: f.Name, Name: i.Name})
			}
		}
	}
	return l
}

func (x *maker) name(typ int) api.Expr {
	l := x.constNames(typ)
	for _, p := range x.locals {
		if p.Type == typ {
			l = append(l, api.Expr{Kind: api.EName, Name: p.Name})
		}
	}
	for _, d := range x.m.Decls {
		if d.Kind == api.DVar && d.Type == typ {
			l = append(l, api.Expr{Kind: api.EName, Name: d.Name})
		}
	}
	return pick(&x.mixer, append(l, x.literal(typ))...)
}

func (x *maker) operation(typ, size int) api.Expr {
	var rows [][3]int // how many it takes, the operator, of which type
	for kids := api.TInt; kids <= api.TBool; kids++ {
		for op := api.UNeg; op <= api.UFloat; op++ {
			if made, code := modelUnary(op, kids); code == api.OK && made == typ {
				rows = append(rows, [3]int{1, op, kids})
			}
		}
		for op := api.BAdd; op <= api.BOr; op++ {
			if made, code := modelBinary(op, kids, kids); code == api.OK && made == typ {
				rows = append(rows, [3]int{2, op, kids})
			}
		}
	}
	row := pick(&x.mixer, rows...)
	if row[0] == 1 {
		return api.Expr{Kind: api.EUn, Op: row[1], Kids: one(x.expr(row[2], size-1))}
	}
	return api.Expr{Kind: api.EBin, Op: row[1], Kids: []api.Expr{x.expr(row[2], size-1), x.expr(row[2], size-1)}}
}

// call: of a function with that result; the module has always one of each.
func (x *maker) call(typ, size int) api.Expr {
	var l []api.Expr
	var params [][]int
	for _, d := range x.m.Decls {
		if d.Kind == api.DFn && d.Type == typ {
			var p []int
			for _, param := range d.Params {
				p = append(p, param.Type)
			}
			l, params = append(l, api.Expr{Kind: api.ECall, Name: d.Name}), append(params, p)
		}
	}
	for _, f := range x.imported() {
		for _, i := range f.Items {
			if i.Kind == api.DFn && i.Type == typ {
				l, params = append(l, api.Expr{Kind: api.EFarCall, Mod: f.Name, Name: i.Name}), append(params, i.Params)
			}
		}
	}
	at := x.below(len(l))
	for _, p := range params[at] {
		l[at].Kids = append(l[at].Kids, x.expr(p, size-1))
	}
	return l[at]
}

// newName: one that is not visible, though it may have been given in other blocks.
func (x *maker) newName() string {
	if x.astray() {
		return x.anyName()
	}
	for range 8 {
		name := pick(&x.mixer, "a", "b", "c", "d", "x", "y", "z", "m")
		if !slices.ContainsFunc(x.locals, func(p api.Param) bool { return p.Name == name }) {
			return name
		}
	}
	x.slots++
	return fmt.Sprint("local", x.slots)
}

func (x *maker) give(typ int) string {
	name := x.newName()
	x.locals = append(x.locals, api.Param{Name: name, Type: typ})
	return name
}

// inBlock: what is made in it gives no names behind it.
func (x *maker) inBlock(make func() []api.Stmt) []api.Stmt {
	visible := len(x.locals)
	defer func() { x.locals = x.locals[:visible] }()
	return make()
}

func (x *maker) block(size int) []api.Stmt {
	return x.inBlock(func() []api.Stmt { return x.stmts(size) })
}

func (x *maker) stmts(size int) []api.Stmt {
	var l []api.Stmt
	for range x.below(4) {
		l = append(l, x.stmt(size))
	}
	return l
}

func (x *maker) stmt(size int) api.Stmt {
	kind := 1 + x.below(9)
	if size <= 0 {
		kind = pick(&x.mixer, api.SLet, api.SSet, api.SShow, api.SFail, api.SDo, api.SReturn)
	}
	s := api.Stmt{Kind: kind}
	switch kind {
	case api.SLet:
		typ := 1 + x.below(3)
		s.E = one(x.expr(typ, 2))
		s.Name = x.give(typ)
	case api.SSet:
		to := x.settable()
		s.Name, s.E = to.Name, one(x.expr(to.Type, 2))
	case api.SIf:
		s.E, s.Body, s.Else = one(x.expr(api.TBool, 2)), x.block(size-1), x.block(size-1)
	case api.SWhile:
		s.E, s.Body = one(x.expr(api.TBool, 2)), x.block(size-1)
	case api.SReturn:
		return x.returned()
	case api.SShow:
		s.E = one(x.expr(1+x.below(3), 3))
	case api.SFail:
		s.E = one(x.expr(api.TInt, 2))
	case api.STry:
		s.Body = x.block(size - 1)
		s.Name = x.give(api.TInt)
		s.Else = x.block(size - 1)
		x.locals = x.locals[:len(x.locals)-1]
	case api.SDo:
		s.E = one(x.call(x.below(4), 2))
	}
	return s
}

// settable: a local name, or a variable, of which the module has always one.
func (x *maker) settable() api.Param {
	if x.astray() {
		return api.Param{Name: x.anyName(), Type: 1 + x.below(3)}
	}
	l := slices.Clone(x.locals)
	for _, d := range x.m.Decls {
		if d.Kind == api.DVar {
			l = append(l, api.Param{Name: d.Name, Type: d.Type})
		}
	}
	return pick(&x.mixer, l...)
}

func (x *maker) returned() api.Stmt {
	s := api.Stmt{Kind: api.SReturn}
	if (x.result != api.TNone) != x.astray() {
		s.E = one(x.expr(max(x.result, api.TInt), 2))
	}
	return s
}

// ending: a statement behind which nothing comes.
func (x *maker) ending(size int) api.Stmt {
	kind := x.below(4)
	if size <= 0 {
		kind = x.below(2)
	}
	switch kind {
	case 0:
		return api.Stmt{Kind: api.SFail, E: one(x.expr(api.TInt, 1))}
	case 1:
		return x.returned()
	case 2:
		return api.Stmt{Kind: api.SIf, E: one(x.expr(api.TBool, 1)), Body: x.endingBlock(size - 1), Else: x.endingBlock(size - 1)}
	}
	s := api.Stmt{Kind: api.STry, Body: x.endingBlock(size - 1)}
	s.Name = x.give(api.TInt)
	s.Else = x.endingBlock(size - 1)
	x.locals = x.locals[:len(x.locals)-1]
	return s
}

func (x *maker) endingBlock(size int) []api.Stmt {
	return x.inBlock(func() []api.Stmt {
		l := x.stmts(size)
		if x.astray() && x.below(2) == 0 {
			return l
		}
		return append(l, x.ending(size))
	})
}

// body: one that ends, where the function has a result.
func (x *maker) body(d api.Decl, size int) []api.Stmt {
	x.locals, x.slots, x.result = slices.Clone(d.Params), 0, d.Type
	if d.Type == api.TNone {
		return x.block(size)
	}
	return x.endingBlock(size)
}

// rightItem: an item that is right.
func (x *maker) rightItem(name string) api.Item {
	if x.below(2) == 0 {
		v := x.value(1 + x.below(3))
		return constant(name, v.Type, v.Bits)
	}
	f := fn(name, x.below(4))
	for range x.below(4) {
		f.Params = append(f.Params, 1+x.below(3))
	}
	return f
}

func (x *maker) iface(name string) api.Iface {
	f := showing(name)
	for _, item := range []string{"A", "B", "C", "f", "g", "h"} {
		if x.below(2) == 0 {
			f.Items = append(f.Items, x.rightItem(item))
		}
	}
	if x.astray() {
		shuffle(&x.mixer, f.Items)
	}
	return f
}

// constExpr: an expression for a constant or a variable.
func (x *maker) constExpr(typ int) api.Expr {
	if x.astray() {
		return x.anyExpr(1)
	}
	e := pick(&x.mixer, append(x.constNames(typ), x.literal(typ))...)
	if typ == api.TBool && x.below(2) == 0 {
		return api.Expr{Kind: api.EBin, Op: api.BNe, Kids: []api.Expr{e, x.literal(typ)}}
	}
	return e
}

// head: a declaration, of a function without its body yet.
func (x *maker) head(at int) api.Decl {
	d := api.Decl{Kind: 1 + x.below(3), Type: 1 + x.below(3)}
	// The first ones see to it that there is one of each that may be looked for.
	if at < 5 {
		d.Kind, d.Type = api.DFn, at
	}
	if at == 4 {
		d.Kind, d.Type = api.DVar, api.TInt
	}
	d.Name = fmt.Sprint([]string{"C", "v", "f"}[d.Kind-1], at)
	if x.astray() {
		d.Name = pick(&x.mixer, "k", "l", "f0", "A", "m")
	}
	if d.Kind != api.DFn {
		x.consts = len(x.m.Decls)
		d.Export, d.E = d.Kind == api.DConst && x.below(2) == 0, one(x.constExpr(d.Type))
		return d
	}
	d.Export = x.below(2) == 0
	if at >= 5 {
		d.Type = x.below(4)
	}
	x.locals = nil
	for range x.below(4) {
		typ := 1 + x.below(3)
		d.Params = append(d.Params, api.Param{Name: x.give(typ), Type: typ})
	}
	return d
}

// made: a module, and the interfaces that it is checked with.
func made(seed uint64, astrayIn int) *maker {
	x := &maker{mixer: mixer(seed), astrayIn: astrayIn, m: api.Module{Name: "m"}}
	for _, name := range []string{"k", "l", "n", "m", "k"} {
		if !x.astray() {
			x.given = append(x.given, x.iface(name))
		}
	}
	shuffle(&x.mixer, x.given)
	for _, name := range []string{"k", "l", "n"} {
		if x.below(2) == 0 {
			x.m.Imports = append(x.m.Imports, name)
		}
	}
	if x.astray() {
		x.m.Imports = append(x.m.Imports, pick(&x.mixer, "k", "l", "m", "nobody"))
	}
	shuffle(&x.mixer, x.m.Imports)
	for at := range 6 + x.below(5) {
		x.m.Decls = append(x.m.Decls, x.head(at))
	}
	shuffle(&x.mixer, x.m.Decls[:5])
	x.consts = len(x.m.Decls)
	for at, d := range x.m.Decls {
		if d.Kind == api.DFn {
			x.m.Decls[at].Body = x.body(d, 3)
		}
	}
	return x
}
