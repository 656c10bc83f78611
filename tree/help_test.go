package tree_test

import (
	"reflect"
	"strings"

	"foundry/api"
	"foundry/floats"
)

const infinity = 0x7ff0000000000000

func lit(typ int, bits uint64) api.Expr {
	return api.Expr{Kind: api.ELit, Value: api.Value{Type: typ, Bits: bits}}
}

func num(n uint64) api.Expr {
	return lit(api.TInt, n)
}

func name(s string) api.Expr {
	return api.Expr{Kind: api.EName, Name: s}
}

func far(mod, s string) api.Expr {
	return api.Expr{Kind: api.EFar, Mod: mod, Name: s}
}

func call(s string, kids ...api.Expr) api.Expr {
	return api.Expr{Kind: api.ECall, Name: s, Kids: kids}
}

func farCall(mod, s string, kids ...api.Expr) api.Expr {
	return api.Expr{Kind: api.EFarCall, Mod: mod, Name: s, Kids: kids}
}

func un(op int, e api.Expr) api.Expr {
	return api.Expr{Kind: api.EUn, Op: op, Kids: []api.Expr{e}}
}

func bin(op int, a, b api.Expr) api.Expr {
	return api.Expr{Kind: api.EBin, Op: op, Kids: []api.Expr{a, b}}
}

func input() api.Expr {
	return api.Expr{Kind: api.EInput}
}

func one(e api.Expr) []api.Expr {
	return []api.Expr{e}
}

func show(e api.Expr) api.Stmt {
	return api.Stmt{Kind: api.SShow, E: one(e)}
}

// constOf: a module with that constant alone.
func constOf(e api.Expr) api.Module {
	return api.Module{Name: "m", Decls: []api.Decl{{Kind: api.DConst, Name: "C", Type: api.TInt, E: one(e)}}}
}

// fnOf: a module with a function of these statements alone.
func fnOf(body ...api.Stmt) api.Module {
	return api.Module{Name: "m", Decls: []api.Decl{{Kind: api.DFn, Name: "f", Body: body}}}
}

// long: a text of n letters.
func long(n int) string {
	return strings.Repeat("a", n)
}

// times: a list of n of them.
func times[T any](n int, x T) []T {
	var l []T
	for range n {
		l = append(l, x)
	}
	return l
}

// sampleExprs: one that is right of each kind.
func sampleExprs() []api.Expr {
	return []api.Expr{num(5), name("x"), far("k", "X"), call("f", num(1)), farCall("k", "f", num(1)), un(api.UNot, name("x")), bin(api.BLt, num(1), name("x")), input()}
}

// sampleStmts: one that is right of each kind.
func sampleStmts() []api.Stmt {
	some := []api.Stmt{show(num(1))}
	return []api.Stmt{
		{Kind: api.SLet, Name: "x", E: one(num(1))},
		{Kind: api.SSet, Name: "x", E: one(num(2))},
		{Kind: api.SIf, E: one(name("b")), Body: some, Else: some},
		{Kind: api.SWhile, E: one(name("b")), Body: some},
		{Kind: api.SReturn, E: one(num(3))},
		{Kind: api.SShow, E: one(num(4))},
		{Kind: api.SFail, E: one(num(5))},
		{Kind: api.STry, Name: "t", Body: some, Else: some},
		{Kind: api.SDo, E: one(call("f"))},
	}
}

// sampleDecls: one that is right of each kind.
func sampleDecls() []api.Decl {
	return []api.Decl{
		{Kind: api.DConst, Export: true, Name: "C", Type: api.TInt, E: one(num(1))},
		{Kind: api.DVar, Name: "v", Type: api.TBool, E: one(lit(api.TBool, 1))},
		{Kind: api.DFn, Export: true, Name: "f", Type: api.TFloat, Params: []api.Param{{Name: "a", Type: api.TInt}, {Name: "b", Type: api.TBool}}, Body: sampleStmts()},
	}
}

// sample: a module that is right and has each kind of everything.
func sample() api.Module {
	m := api.Module{Name: "m", Imports: []string{"k", "l"}, Decls: sampleDecls()}
	for _, e := range sampleExprs() {
		m.Decls[2].Body = append(m.Decls[2].Body, show(e))
	}
	return m
}

// roomy: the same module, each list of it by itself, with something in its spare room.
func roomy(m api.Module) api.Module {
	m.Imports = room(m.Imports, func(s string) string { return s }, "spare")
	m.Decls = room(m.Decls, func(d api.Decl) api.Decl {
		d.Params = room(d.Params, func(p api.Param) api.Param { return p }, api.Param{Name: "spare"})
		d.E = room(d.E, roomyExpr, name("spare"))
		d.Body = room(d.Body, roomyStmt, api.Stmt{Name: "spare"})
		return d
	}, api.Decl{Name: "spare"})
	return m
}

func roomyStmt(s api.Stmt) api.Stmt {
	s.E = room(s.E, roomyExpr, name("spare"))
	s.Body = room(s.Body, roomyStmt, api.Stmt{Name: "spare"})
	s.Else = room(s.Else, roomyStmt, api.Stmt{Name: "spare"})
	return s
}

func roomyExpr(e api.Expr) api.Expr {
	e.Kids = room(e.Kids, roomyExpr, name("spare"))
	return e
}

func room[T any](l []T, each func(T) T, spare T) []T {
	c := make([]T, 0, len(l)+2)
	for _, x := range l {
		c = append(c, each(x))
	}
	for i := len(c); i < cap(c); i++ {
		c[:cap(c)][i] = spare
	}
	return c
}

// parts: where everything of a module stands.
type parts struct {
	imports *[]string
	decls   []*api.Decl
	params  []*api.Param
	stmts   []*api.Stmt
	exprs   []*api.Expr
	bases   []uintptr // where the lists stand that have room
}

func (p *parts) list(l any) {
	if v := reflect.ValueOf(l); v.Cap() > 0 {
		p.bases = append(p.bases, v.Pointer())
	}
}

func (p *parts) addExprs(l []api.Expr) {
	p.list(l)
	for i := range l {
		p.exprs = append(p.exprs, &l[i])
		p.addExprs(l[i].Kids)
	}
}

func (p *parts) addStmts(l []api.Stmt) {
	p.list(l)
	for i := range l {
		p.stmts = append(p.stmts, &l[i])
		p.addExprs(l[i].E)
		p.addStmts(l[i].Body)
		p.addStmts(l[i].Else)
	}
}

func partsOf(m *api.Module) *parts {
	p := &parts{imports: &m.Imports}
	p.list(m.Imports)
	p.list(m.Decls)
	for i := range m.Decls {
		d := &m.Decls[i]
		p.decls = append(p.decls, d)
		p.list(d.Params)
		for i := range d.Params {
			p.params = append(p.params, &d.Params[i])
		}
		p.addExprs(d.E)
		p.addStmts(d.Body)
	}
	return p
}

// changes: of a module that has its lists by itself, each change of one field of one part.
func changes(m *api.Module) []func() {
	p := partsOf(m)
	l := []func(){
		func() { m.Name += "x" },
		func() { m.Imports = append(m.Imports, "more") },
		func() { m.Decls = append(m.Decls, api.Decl{Kind: api.DFn, Name: "more"}) },
	}
	l = append(l, shorter(&m.Imports)...)
	l = append(l, shorter(&m.Decls)...)
	for i := range m.Imports {
		l = append(l, func() { m.Imports[i] += "x" })
	}
	for _, d := range p.decls {
		l = append(l, func() { d.Kind++ }, func() { d.Export = !d.Export }, func() { d.Name += "x" }, func() { d.Type = (d.Type + 1) % 4 },
			func() { d.Params = append(d.Params, api.Param{Name: "more", Type: api.TInt}) }, func() { d.E = append(d.E, num(9)) }, func() { d.Body = append(d.Body, show(num(9))) })
		l = append(append(append(l, shorter(&d.Params)...), shorter(&d.E)...), shorter(&d.Body)...)
	}
	for _, a := range p.params {
		l = append(l, func() { a.Name += "x" }, func() { a.Type = a.Type%3 + 1 })
	}
	for _, s := range p.stmts {
		l = append(l, func() { s.Kind++ }, func() { s.Name += "x" }, func() { s.E = append(s.E, num(9)) },
			func() { s.Body = append(s.Body, show(num(9))) }, func() { s.Else = append(s.Else, show(num(9))) })
		l = append(append(append(l, shorter(&s.E)...), shorter(&s.Body)...), shorter(&s.Else)...)
	}
	for _, e := range p.exprs {
		l = append(l, func() { e.Kind++ }, func() { e.Op++ }, func() { e.Mod += "x" }, func() { e.Name += "x" },
			func() { e.Value.Type++ }, func() { e.Value.Bits++ }, func() { e.Kids = append(e.Kids, num(9)) })
		l = append(l, shorter(&e.Kids)...)
	}
	return l
}

// shorter: the change of a list that drops its last one, if there is one.
func shorter[T any](l *[]T) []func() {
	if len(*l) == 0 {
		return nil
	}
	return []func(){func() { *l = (*l)[:len(*l)-1] }}
}

// variants: the modules that part from m in one field of one part alone.
func variants(m api.Module) []api.Module {
	var l []api.Module
	for i := range changes(&m) {
		c := roomy(m)
		changes(&c)[i]()
		l = append(l, c)
	}
	return l
}

// mixer: numbers without a pattern, the same ones each time.
type mixer uint64

func (x *mixer) next() uint64 {
	*x += 0x9e3779b97f4a7c15
	z := uint64(*x)
	z = (z ^ z>>30) * 0xbf58476d1ce4e5b9
	z = (z ^ z>>27) * 0x94d049bb133111eb
	return z ^ z>>31
}

func (x *mixer) below(n int) int {
	return int(x.next() % uint64(n))
}

func pick[T any](x *mixer, l ...T) T {
	return l[x.below(len(l))]
}

func (x *mixer) name() string {
	return pick(x, "a", "b", "x1", "_", "While", "main", long(32))
}

// expr: one that is right, but that it may be nested too deep.
func (x *mixer) expr(size int) api.Expr {
	if size <= 0 {
		switch x.below(6) {
		case 0:
			return lit(api.TInt, pick(x, 0, 1, 10, 1<<63-1, x.next()>>1))
		case 1:
			return lit(api.TFloat, pick(x, 0, 1, 0x3ff0000000000000, infinity, floats.NaN, x.next()>>2))
		case 2:
			return lit(api.TBool, x.next()&1)
		case 3:
			return name(x.name())
		case 4:
			return far(x.name(), x.name())
		}
		return input()
	}
	size--
	switch x.below(6) {
	case 0:
		return call(x.name(), x.exprs(x.below(4), size)...)
	case 1:
		return farCall(x.name(), x.name(), x.exprs(x.below(4), size)...)
	case 2, 3:
		return un(1+x.below(4), x.expr(size))
	}
	left := x.below(size + 1)
	return bin(1+x.below(13), x.expr(left), x.expr(size-left))
}

func (x *mixer) exprs(n, size int) []api.Expr {
	var l []api.Expr
	for range n {
		l = append(l, x.expr(size/n))
	}
	return l
}

func (x *mixer) block(size int) []api.Stmt {
	var l []api.Stmt
	for range x.below(4) {
		l = append(l, x.stmt(size-1))
	}
	return l
}

func (x *mixer) stmt(size int) api.Stmt {
	s := api.Stmt{Kind: 1 + x.below(9)}
	if size <= 0 {
		s.Kind = pick(x, api.SLet, api.SSet, api.SReturn, api.SShow, api.SFail, api.SDo)
	}
	if s.Kind != api.STry {
		s.E = one(x.expr(x.below(4)))
	}
	switch s.Kind {
	case api.SLet, api.SSet:
		s.Name = x.name()
	case api.SIf:
		s.Body, s.Else = x.block(size), x.block(size)
	case api.SWhile:
		s.Body = x.block(size)
	case api.SReturn:
		s.E = s.E[:x.below(2)]
	case api.STry:
		s.Name, s.Body, s.Else = x.name(), x.block(size), x.block(size)
	case api.SDo:
		s.E = one(pick(x, call(x.name(), x.exprs(x.below(3), 2)...), farCall(x.name(), x.name(), x.exprs(x.below(3), 2)...)))
	}
	return s
}

func (x *mixer) decl() api.Decl {
	d := api.Decl{Kind: 1 + x.below(3), Name: x.name(), Type: 1 + x.below(3)}
	if d.Kind != api.DFn {
		d.Export = d.Kind == api.DConst && x.below(2) == 0
		d.E = one(x.expr(x.below(12)))
		return d
	}
	d.Export, d.Type = x.below(2) == 0, x.below(4)
	for range x.below(4) {
		d.Params = append(d.Params, api.Param{Name: x.name(), Type: 1 + x.below(3)})
	}
	d.Body = x.block(x.below(4))
	return d
}

// module: one that is right, but that it may be too long.
func (x *mixer) module() api.Module {
	m := api.Module{Name: x.name()}
	for range x.below(3) {
		m.Imports = append(m.Imports, x.name())
	}
	for range x.below(4) {
		m.Decls = append(m.Decls, x.decl())
	}
	return m
}

// spoil changes a field of a module somewhere, to something that is mostly wrong there.
func (x *mixer) spoil(m *api.Module) {
	p := partsOf(m)
	odd := func() int { return pick(x, -1, 0, 1, 2, 3, 4, 5, 8, 9, 10, 13, 14, 1<<62, -1<<63) }
	text := func() string { return pick(x, "", "a", "9", "if", "nan", "a b", long(33), "k") }
	switch n := x.below(6); {
	case n == 0 && len(p.decls) > 0:
		d := pick(x, p.decls...)
		pick(x, func() { d.Kind = odd() }, func() { d.Export = !d.Export }, func() { d.Name = text() }, func() { d.Type = odd() },
			func() { d.Params = append(d.Params, times(x.below(10), api.Param{Name: "p", Type: 1})...) },
			func() { d.E = x.exprs(x.below(3), 3) }, func() { d.Body = x.block(2) })()
	case n == 1 && len(p.params) > 0:
		a := pick(x, p.params...)
		pick(x, func() { a.Name = text() }, func() { a.Type = odd() })()
	case n <= 3 && len(p.stmts) > 0:
		s := pick(x, p.stmts...)
		pick(x, func() { s.Kind = odd() }, func() { s.Name = text() }, func() { s.E = x.exprs(x.below(3), 3) },
			func() { s.Body = x.block(2) }, func() { s.Else = x.block(2) })()
	case n <= 4 && len(p.exprs) > 0:
		e := pick(x, p.exprs...)
		pick(x, func() { e.Kind = odd() }, func() { e.Op = odd() }, func() { e.Mod = text() }, func() { e.Name = text() },
			func() { e.Value.Type = odd() }, func() { e.Value.Bits = x.next() }, func() { e.Kids = x.exprs(x.below(11), 30) })()
	default:
		pick(x, func() { m.Name = text() }, func() { m.Imports = append(m.Imports, text()) })()
	}
}

// spoiled: a module with some faults, lists of its own, and something in their spare room.
func (x *mixer) spoiled() api.Module {
	m := roomy(x.module())
	for range 1 + x.below(3) {
		x.spoil(&m)
	}
	return roomy(m)
}
