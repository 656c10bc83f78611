package vm_test

import (
	"fmt"
	"slices"

	"foundry/api"
	"foundry/types"
)

func shuffle[T any](x *mixer, l []T) {
	for at := range l {
		other := at + x.below(len(l)-at)
		l[at], l[other] = l[other], l[at]
	}
}

// maker: makes right projects, module by module, each behind those that it imports.
type maker struct {
	mixer
	done   []api.Module
	m      api.Module
	locals []api.Param
	slots  int
	result int

	operations [api.TBool + 1][][3]int
}

// project: each module behind those that it imports.
func project(seed uint64) []api.Module {
	x := &maker{mixer: mixer(seed), operations: operations()}
	names := append([]string{"main"}, []string{"a", "k", "z"}[:x.below(4)]...)
	shuffle(&x.mixer, names)
	for _, name := range names {
		x.module(name)
		x.done = append(x.done, x.m)
	}
	return x.done
}

func (x *maker) module(name string) {
	x.m = api.Module{Name: name}
	for _, m := range x.done {
		if !x.in(4) {
			x.m.Imports = append(x.m.Imports, m.Name)
		}
	}
	shuffle(&x.mixer, x.m.Imports)
	for at := range 2 + x.below(3) {
		typ := 1 + x.below(3)
		e := x.constExpr(typ)
		x.m.Decls = append(x.m.Decls, api.Decl{Kind: api.DConst, Export: !x.in(3), Name: fmt.Sprint("C", at), Type: typ, E: []api.Expr{e}})
	}
	for at, typ := range []int{api.TInt, 1 + x.below(3), 1 + x.below(3)} {
		e := x.constExpr(typ)
		x.m.Decls = append(x.m.Decls, api.Decl{Kind: api.DVar, Name: fmt.Sprint("v", at), Type: typ, E: []api.Expr{e}})
	}
	// One of each result, so that like names have unlike ones.
	results := []int{api.TNone, api.TInt, api.TFloat, api.TBool}
	shuffle(&x.mixer, results)
	for at, result := range results {
		d := api.Decl{Kind: api.DFn, Export: !x.in(3), Name: fmt.Sprint("f", at), Type: result}
		for n := range x.below(4) {
			d.Params = append(d.Params, api.Param{Name: fmt.Sprint("p", n), Type: 1 + x.below(3)})
		}
		x.m.Decls = append(x.m.Decls, d)
	}
	if name == "main" {
		x.m.Decls = append(x.m.Decls, api.Decl{Kind: api.DFn, Name: "main", Type: api.TInt})
	}
	for at, d := range x.m.Decls {
		if d.Kind == api.DFn {
			x.m.Decls[at].Body = x.body(d)
		}
	}
	x.mingle()
}

// mingle: functions stand anywhere between the other declarations, which keep their order.
func (x *maker) mingle() {
	var fns, others []api.Decl
	for _, d := range x.m.Decls {
		if d.Kind == api.DFn {
			fns = append(fns, d)
		} else {
			others = append(others, d)
		}
	}
	shuffle(&x.mixer, fns)
	for _, f := range fns {
		others = slices.Insert(others, x.below(len(others)+1), f)
	}
	x.m.Decls = others
}

// literal: small ones for the most part.
func (x *maker) literal(typ int) api.Expr {
	v := api.Value{Type: typ, Bits: uint64(x.below(2))}
	switch typ {
	case api.TInt:
		v.Bits = pick(&x.mixer, 0, 0, 1, 1, 2, 3, 5, 9, uint64(x.below(100)), 1<<62, 1<<63-1)
	case api.TFloat:
		v.Bits = pick[uint64](&x.mixer, 0, 0x3fe0000000000000, 0x3ff0000000000000, 0x3ff8000000000000, 0x4024000000000000, 0x7ff0000000000000, 0x7ff8000000000001, 0x43e0000000000000)
	}
	return api.Expr{Kind: api.ELit, Value: v}
}

// declared: the declarations of that kind, of the module and of what it imports, with the names by which they are asked for.
func (x *maker) declared(kind int) ([]api.Decl, []api.Expr) {
	var decls []api.Decl
	var exprs []api.Expr
	for _, d := range x.m.Decls {
		if d.Kind == kind {
			decls, exprs = append(decls, d), append(exprs, api.Expr{Kind: api.EName, Name: d.Name})
		}
	}
	for _, m := range x.done {
		for _, d := range m.Decls {
			if d.Kind == kind && d.Export && slices.Contains(x.m.Imports, m.Name) {
				decls, exprs = append(decls, d), append(exprs, api.Expr{Kind: api.EFar, Mod: m.Name, Name: d.Name})
			}
		}
	}
	return decls, exprs
}

func (x *maker) named(typ int, kinds ...int) []api.Expr {
	var l []api.Expr
	for _, kind := range kinds {
		decls, exprs := x.declared(kind)
		for at, d := range decls {
			if d.Type == typ {
				l = append(l, exprs[at])
			}
		}
	}
	return l
}

// constExpr: one that does not trap.
func (x *maker) constExpr(typ int) api.Expr {
	e := pick(&x.mixer, append(x.named(typ, api.DConst), x.literal(typ))...)
	switch {
	case typ == api.TFloat && x.in(2):
		return api.Expr{Kind: api.EBin, Op: pick(&x.mixer, api.BAdd, api.BDiv), Kids: []api.Expr{e, x.literal(typ)}}
	case typ == api.TBool && x.in(2):
		return api.Expr{Kind: api.EBin, Op: pick(&x.mixer, api.BAnd, api.BNe), Kids: []api.Expr{e, x.literal(typ)}}
	case typ != api.TBool && x.in(3):
		return api.Expr{Kind: api.EUn, Op: api.UNeg, Kids: []api.Expr{e}}
	}
	return e
}

func (x *maker) simple(typ int) api.Expr {
	if typ == api.TInt && x.in(8) {
		return api.Expr{Kind: api.EInput}
	}
	l := append(x.named(typ, api.DConst, api.DVar), x.literal(typ))
	for _, p := range x.locals {
		if p.Type == typ {
			e := api.Expr{Kind: api.EName, Name: p.Name}
			l = append(l, e, e, e)
		}
	}
	return pick(&x.mixer, l...)
}

func (x *maker) expr(typ, size int) api.Expr {
	switch {
	case size <= 0 || x.in(3):
		return x.simple(typ)
	case x.in(7):
		return x.call(typ, size)
	}
	return x.operation(typ, size)
}

// operations: of each type the operators that make it: how many they take, the operator, of which type.
func operations() (rows [api.TBool + 1][][3]int) {
	for kids := api.TInt; kids <= api.TBool; kids++ {
		for op := api.UNeg; op <= api.UFloat; op++ {
			if made, code := types.Unary(op, kids); code == api.OK {
				rows[made] = append(rows[made], [3]int{1, op, kids})
			}
		}
		for op := api.BAdd; op <= api.BOr; op++ {
			if made, code := types.Binary(op, kids, kids); code == api.OK {
				rows[made] = append(rows[made], [3]int{2, op, kids})
			}
		}
	}
	return rows
}

func (x *maker) operation(typ, size int) api.Expr {
	row := pick(&x.mixer, x.operations[typ]...)
	e := api.Expr{Kind: api.EUn, Op: row[1], Kids: []api.Expr{x.expr(row[2], size-1)}}
	if row[0] == 2 {
		e.Kind, e.Kids = api.EBin, append(e.Kids, x.expr(row[2], size-1))
	}
	return e
}

// call: each module has a function of each result.
func (x *maker) call(typ, size int) api.Expr {
	decls, exprs := x.declared(api.DFn)
	for {
		at := x.below(len(decls))
		if decls[at].Type != typ {
			continue
		}
		e := exprs[at]
		e.Kind = map[int]int{api.EName: api.ECall, api.EFar: api.EFarCall}[e.Kind]
		for _, p := range decls[at].Params {
			e.Kids = append(e.Kids, x.expr(p.Type, size-1))
		}
		return e
	}
}

// give: a name that is not visible, though it may have been given in other blocks.
func (x *maker) give(typ int) string {
	name := pick(&x.mixer, "a1", "b1", "c1", "d1", x.m.Name, "C9", "v9", "f9")
	visible := slices.ContainsFunc(x.locals, func(p api.Param) bool { return p.Name == name })
	if visible || name == "main" {
		name = fmt.Sprint("local", x.slots)
	}
	x.slots++
	x.locals = append(x.locals, api.Param{Name: name, Type: typ})
	return name
}

func (x *maker) body(d api.Decl) []api.Stmt {
	x.locals, x.slots, x.result = slices.Clone(d.Params), len(d.Params), d.Type
	return x.block(2, func(l []api.Stmt) []api.Stmt { return append(l, x.ending(1)) })
}

// block: statements, and what more is put behind them.
func (x *maker) block(size int, more func(l []api.Stmt) []api.Stmt) []api.Stmt {
	visible := len(x.locals)
	var l []api.Stmt
	for range 1 + x.below(4) {
		l = append(l, x.stmts(size)...)
	}
	if more != nil {
		l = more(l)
	}
	x.locals = x.locals[:visible]
	return l
}

func (x *maker) stmts(size int) []api.Stmt {
	// The last slots are left for what ends the blocks.
	if x.slots > api.MaxLocals/2 {
		return []api.Stmt{{Kind: api.SShow, E: x.e(1 + x.below(3))}}
	}
	if size <= 0 || !x.in(2) {
		return []api.Stmt{x.plain()}
	}
	switch x.below(6) {
	case 0:
		return []api.Stmt{{Kind: api.SIf, E: x.e(api.TBool), Body: x.block(size-1, nil), Else: x.block(size-1, nil)}}
	case 1:
		return []api.Stmt{{Kind: api.SWhile, E: x.e(api.TBool), Body: x.block(size-1, nil)}}
	case 2:
		return x.counted(size)
	}
	return []api.Stmt{x.try(x.block(size-1, nil), func() []api.Stmt { return x.block(size-1, nil) })}
}

func (x *maker) e(typ int) []api.Expr {
	return []api.Expr{x.expr(typ, 2)}
}

// counted: a loop that for the most part ends.
func (x *maker) counted(size int) []api.Stmt {
	count := api.Expr{Kind: api.EName, Name: x.give(api.TInt)}
	number := func(n int) api.Expr {
		return api.Expr{Kind: api.ELit, Value: api.Value{Type: api.TInt, Bits: uint64(n)}}
	}
	more := api.Stmt{Kind: api.SSet, Name: count.Name, E: []api.Expr{{Kind: api.EBin, Op: api.BAdd, Kids: []api.Expr{count, number(1)}}}}
	body := x.block(size-1, func(l []api.Stmt) []api.Stmt { return append([]api.Stmt{more}, l...) })
	below := api.Expr{Kind: api.EBin, Op: api.BLt, Kids: []api.Expr{count, number(x.below(5))}}
	return []api.Stmt{
		{Kind: api.SLet, Name: count.Name, E: []api.Expr{number(0)}},
		{Kind: api.SWhile, E: []api.Expr{below}, Body: body},
	}
}

func (x *maker) try(body []api.Stmt, second func() []api.Stmt) api.Stmt {
	s := api.Stmt{Kind: api.STry, Body: body, Name: x.give(api.TInt)}
	s.Else = second()
	x.locals = x.locals[:len(x.locals)-1]
	return s
}

// plain: a statement without blocks.
func (x *maker) plain() api.Stmt {
	switch x.below(12) {
	case 0, 1:
		typ := 1 + x.below(3)
		e := x.e(typ)
		return api.Stmt{Kind: api.SLet, Name: x.give(typ), E: e}
	case 2, 3, 4:
		l := slices.Clone(x.locals)
		for _, d := range x.m.Decls {
			if d.Kind == api.DVar {
				l = append(l, api.Param{Name: d.Name, Type: d.Type})
			}
		}
		to := pick(&x.mixer, l...)
		return api.Stmt{Kind: api.SSet, Name: to.Name, E: x.e(to.Type)}
	case 5:
		return x.over()
	case 6, 7:
		return api.Stmt{Kind: api.SDo, E: []api.Expr{x.call(x.below(4), 2)}}
	}
	return api.Stmt{Kind: api.SShow, E: x.e(1 + x.below(3))}
}

// over: a fail or a return.
func (x *maker) over() api.Stmt {
	switch {
	case x.in(2):
		return api.Stmt{Kind: api.SFail, E: x.e(api.TInt)}
	case x.result == api.TNone:
		return api.Stmt{Kind: api.SReturn}
	}
	return api.Stmt{Kind: api.SReturn, E: x.e(x.result)}
}

// ending: a statement behind which nothing comes.
func (x *maker) ending(size int) api.Stmt {
	end := func(l []api.Stmt) []api.Stmt { return append(l, x.ending(size-1)) }
	switch {
	case size <= 0 || x.in(2):
		if x.result != api.TNone && !x.in(6) {
			return api.Stmt{Kind: api.SReturn, E: x.e(x.result)}
		}
		return x.over()
	case x.in(2):
		return api.Stmt{Kind: api.SIf, E: x.e(api.TBool), Body: x.block(size-1, end), Else: x.block(size-1, end)}
	}
	return x.try(x.block(size-1, end), func() []api.Stmt { return x.block(size-1, end) })
}
