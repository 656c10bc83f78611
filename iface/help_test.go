package iface_test

import (
	"fmt"
	"math"
	"slices"
	"strings"
	"testing"

	"foundry/api"
	"foundry/floats"
	"foundry/parse"
)

const signBit = 1 << 63

// is fails unless got is what it has to be.
func is[T comparable](t *testing.T, what string, got, want T) {
	t.Helper()
	if got != want {
		t.Errorf("%s: %v, not %v", what, got, want)
	}
}

// module: the module of a text.
func module(t *testing.T, text string) api.Module {
	t.Helper()
	m, at, code := parse.Parse(text)
	if code != api.OK {
		t.Fatalf("%q: %v at %d", text, code, at)
	}
	return m
}

func constant(name string, typ int, bits uint64) api.Item {
	return api.Item{Kind: api.DConst, Name: name, Type: typ, Bits: bits}
}

// num: a constant that is an int.
func num(name string, n int64) api.Item {
	return constant(name, api.TInt, uint64(n))
}

func fn(name string, result int, params ...int) api.Item {
	return api.Item{Kind: api.DFn, Name: name, Type: result, Params: params}
}

// showing: an interface.
func showing(name string, items ...api.Item) api.Iface {
	return api.Iface{Name: name, Items: items}
}

// long: a text of n letters.
func long(n int) string {
	return strings.Repeat("a", n)
}

// times: a list of n of them.
func times[T any](n int, x T) []T {
	return slices.Repeat([]T{x}, n)
}

// inOrder: n items that are right, in the order of their names.
func inOrder(n int) []api.Item {
	var l []api.Item
	for at := range n {
		name := fmt.Sprintf("x%04d", at)
		if at%2 == 0 {
			l = append(l, num(name, int64(at)))
		} else {
			l = append(l, fn(name, at%4, times(at%9, api.TInt)...))
		}
	}
	return l
}

// rightIfaces: interfaces that are right, no two of them alike.
func rightIfaces() []api.Iface {
	all := []int{api.TInt, api.TFloat, api.TBool, api.TBool, api.TFloat, api.TInt, api.TInt, api.TBool}
	l := []api.Iface{
		showing("m"), showing("M"), showing("_"), showing("mm"), showing(long(32)),
		showing("m", num("X", 0)), showing("m", num("X", 1)), showing("m", num("X", -1)), showing("m", num("X", math.MinInt64)), showing("m", num("X", math.MaxInt64)),
		showing("m", num("x", 1)), showing("m", num("X0", 1)), showing("m", num(long(32), 1)), showing("n", num("X", 1)),
		showing("m", constant("X", api.TBool, 0)), showing("m", constant("X", api.TBool, 1)),
		showing("m", num("X", 1), num("Y", 2)), showing("m", num("X", 1), fn("f", 0), num("g", 2)), showing("m", fn("X", 0), num("f", 1)),
		showing("m", fn("a", 0), fn("b", 0, api.TInt), fn("c", api.TInt), fn("d", api.TBool, api.TInt)),
		showing("m", inOrder(63)...), showing("m", inOrder(64)...), showing(long(32), inOrder(64)...),
	}
	for _, bits := range []uint64{0, 1, 2, signBit, 0x3ff8000000000000, 0x7ff0000000000000, 0xfff0000000000000, floats.NaN} {
		l = append(l, showing("m", constant("X", api.TFloat, bits)))
	}
	for result := api.TNone; result <= api.TBool; result++ {
		for n := range len(all) + 1 {
			l = append(l, showing("m", fn("f", result, all[:n]...)))
		}
	}
	return l
}

// wrongIface: an interface that is not right, and the error of it.
type wrongIface struct {
	what string
	f    api.Iface
	code api.Errno
}

// wrongIfaces: of the name k, but for those whose name is wrong.
func wrongIfaces() []wrongIface {
	of := func(items ...api.Item) api.Iface { return showing("k", items...) }
	withParams := num("Y", 1)
	withParams.Params = []int{api.TInt}
	withBits := fn("f", api.TInt)
	withBits.Bits = 1
	return []wrongIface{
		{"no name", showing("", num("Y", 1)), api.ErrName},
		{"a wrong name", showing("9", num("Y", 1)), api.ErrName},
		{"a reserved word", showing("while", num("Y", 1)), api.ErrName},
		{"a long name", showing(long(33), num("Y", 1)), api.ErrBig},
		{"too many items", of(inOrder(65)...), api.ErrBig},
		{"many more items", of(inOrder(1000)...), api.ErrBig},
		{"an item of no kind", of(api.Item{Name: "Y", Type: api.TInt}), api.ErrArg},
		{"a variable", of(api.Item{Kind: api.DVar, Name: "Y", Type: api.TInt}), api.ErrArg},
		{"a kind that is a byte's one", of(api.Item{Kind: 257, Name: "Y", Type: api.TInt}), api.ErrArg},
		{"the least kind", of(api.Item{Kind: math.MinInt, Name: "Y", Type: api.TInt}), api.ErrArg},
		{"an item without a name", of(num("", 1)), api.ErrName},
		{"an item with a reserved word", of(num("int", 1)), api.ErrName},
		{"an item with a wrong name", of(num("A", 1), num("a.b", 1)), api.ErrName},
		{"an item with a long name", of(num(long(33), 1)), api.ErrBig},
		{"too many parameters", of(fn("f", 0, times(9, api.TInt)...)), api.ErrBig},
		{"a parameter without a type", of(fn("f", 0, api.TInt, api.TNone)), api.ErrArg},
		{"a parameter of another type", of(fn("f", 0, 4)), api.ErrArg},
		{"a parameter below 0", of(fn("f", 0, -1)), api.ErrArg},
		{"a parameter that is an int's one", of(fn("f", 0, 1<<31+1)), api.ErrArg},
		{"a constant without a type", of(constant("Y", api.TNone, 0)), api.ErrArg},
		{"a constant of another type", of(constant("Y", 4, 0)), api.ErrArg},
		{"a type that is a byte's one", of(constant("Y", 257, 0)), api.ErrArg},
		{"another NaN", of(constant("Y", api.TFloat, floats.NaN+1)), api.ErrArg},
		{"a bool of 2", of(constant("Y", api.TBool, 2)), api.ErrArg},
		{"a constant with a parameter", of(withParams), api.ErrArg},
		{"a function with bits", of(withBits), api.ErrArg},
		{"a function of another type", of(fn("f", -1)), api.ErrArg},
		{"a name twice", of(num("Y", 1), num("Y", 1)), api.ErrTwice},
		{"a name twice, of unlike items", of(num("A", 1), num("Y", 1), fn("Y", 0)), api.ErrTwice},
		{"out of order", of(num("b", 1), num("a", 1)), api.ErrArg},
		{"capitals behind", of(num("a", 1), num("B", 1)), api.ErrArg},
		{"the last one out of order", of(append(inOrder(63), num("a", 1))...), api.ErrArg},
	}
}

// itemKey: all that an item has; unlike ones have unlike keys.
func itemKey(i api.Item) string {
	return fmt.Sprintf("%d %q %d %x %d", i.Kind, i.Name, i.Type, i.Bits, append([]int{}, i.Params...))
}

func ifaceKey(f api.Iface) string {
	key := fmt.Sprintf("%q %d", f.Name, len(f.Items))
	for _, i := range f.Items {
		key += "\n" + itemKey(i)
	}
	return key
}

// wholeKey: a key of the interfaces with what stands in the spare room of each list.
func wholeKey(l []api.Iface) string {
	key := fmt.Sprint(len(l))
	for _, f := range l[:cap(l)] {
		key += fmt.Sprintf("\n%q %d", f.Name, len(f.Items))
		for _, i := range f.Items[:cap(f.Items)] {
			key += "\n" + itemKey(i) + fmt.Sprint(i.Params[:cap(i.Params)])
		}
	}
	return key
}

// spared: the list by itself, with something in its spare room.
func spared[T any](l []T, spare T) []T {
	c := append(make([]T, 0, len(l)+2), l...)
	return append(c, spare, spare)[:len(l)]
}

func roomyIface(f api.Iface) api.Iface {
	f.Items = spared(f.Items, num("spare", 7))
	for at := range f.Items {
		f.Items[at].Params = spared(f.Items[at].Params, 77)
	}
	return f
}

func roomyIfaces(l []api.Iface) []api.Iface {
	l = spared(l, showing("spare", num("Y", 7)))
	for at := range l {
		l[at] = roomyIface(l[at])
	}
	return l
}

func roomyExpr(e api.Expr) api.Expr {
	e.Kids = spared(e.Kids, api.Expr{Kind: api.EInput})
	for at := range e.Kids {
		e.Kids[at] = roomyExpr(e.Kids[at])
	}
	return e
}

func roomyModule(m api.Module) api.Module {
	m.Imports = spared(m.Imports, "spare")
	m.Decls = spared(m.Decls, api.Decl{Kind: api.DConst, Export: true, Name: "spare", Type: api.TInt})
	for at := range m.Decls {
		d := &m.Decls[at]
		d.Params = spared(d.Params, api.Param{Name: "spare", Type: 77})
		d.E = spared(d.E, api.Expr{Kind: api.EInput})
		for e := range d.E {
			d.E[e] = roomyExpr(d.E[e])
		}
		d.Body = spared(d.Body, api.Stmt{Kind: api.SReturn})
	}
	return m
}

func exprKey(e api.Expr) string {
	key := fmt.Sprint(e.Kind, e.Op, e.Mod, " ", e.Name, e.Value, len(e.Kids), "(")
	for _, kid := range e.Kids[:cap(e.Kids)] {
		key += exprKey(kid) + ","
	}
	return key + ")"
}

// moduleKey: all that a module has, what stands in the spare room too.
func moduleKey(m api.Module) string {
	key := fmt.Sprint(m.Name, len(m.Imports), m.Imports[:cap(m.Imports)], len(m.Decls))
	for _, d := range m.Decls[:cap(m.Decls)] {
		key += fmt.Sprint("\n", d.Kind, d.Export, d.Name, d.Type, len(d.Params), d.Params[:cap(d.Params)], len(d.Body), d.Body[:cap(d.Body)], len(d.E))
		for _, e := range d.E[:cap(d.E)] {
			key += " " + exprKey(e)
		}
	}
	return key
}

// scribble writes over all that the interface's lists have, spare room too.
func scribble(f api.Iface) {
	items := f.Items[:cap(f.Items)]
	for at := range items {
		params := items[at].Params[:cap(items[at].Params)]
		for p := range params {
			params[p] = -99
		}
		items[at] = num("scribble", 99)
	}
}

// listsApart fails if two lists of the interface share memory: what is written into one would be seen in another.
func listsApart(t *testing.T, f api.Iface) {
	t.Helper()
	for at := range f.Items {
		params := f.Items[at].Params[:cap(f.Items[at].Params)]
		for p := range params {
			params[p] = 1000*at + p
		}
	}
	for at := range f.Items {
		for p, got := range f.Items[at].Params[:cap(f.Items[at].Params)] {
			if got != 1000*at+p {
				t.Fatalf("the parameters of item %d stand where others do", at)
			}
		}
	}
}

// mixer: numbers without a pattern, the same ones each time.
type mixer uint64

func (x *mixer) next() uint64 {
	*x += 0x9e3779b97f4a7c15
	z := uint64(*x)
	z = (z ^ z>>30) * 0xbf58476d1ce4e5b9
	z = (z ^ z>>27) * 0x94d049bb133111eb
	return z ^ z>>31
}

func (x *mixer) below(n int) int {
	return int(x.next() % uint64(n))
}

func pick[T any](x *mixer, l []T) T {
	return l[x.below(len(l))]
}

// shuffle puts the list into another order, in place.
func shuffle[T any](x *mixer, l []T) {
	for at := range l {
		other := at + x.below(len(l)-at)
		l[at], l[other] = l[other], l[at]
	}
}

// rightItem: an item that is right.
func (x *mixer) rightItem(name string) api.Item {
	switch x.below(4) {
	case 0:
		return num(name, int64(x.next())>>x.below(64))
	case 1:
		return constant(name, api.TFloat, pick(x, []uint64{0, 1, signBit, floats.NaN, 0x7ff0000000000000, 0x3ff0000000000000}))
	case 2:
		return constant(name, api.TBool, uint64(x.below(2)))
	}
	f := fn(name, x.below(4))
	for range x.below(9) {
		f.Params = append(f.Params, 1+x.below(3))
	}
	return f
}

// someNames: some of the names, each once, in order.
func (x *mixer) someNames() []string {
	var l []string
	for _, name := range []string{"A", "B", "C", "X", "Y", "_", "a", "a0", "ab", "f", "g", "h"} {
		if x.below(3) == 0 {
			l = append(l, name)
		}
	}
	return l
}

// rightIface: an interface that is right.
func (x *mixer) rightIface(name string) api.Iface {
	f := showing(name)
	for _, item := range x.someNames() {
		f.Items = append(f.Items, x.rightItem(item))
	}
	return f
}

// near: the interface with something about it changed, so that it may be not right any more.
func (x *mixer) near(f api.Iface) api.Iface {
	f = roomyIface(f)
	if len(f.Items) == 0 {
		return showing(pick(x, []string{"m", "n", "", "9"}), x.rightItem("A"))
	}
	i := &f.Items[x.below(len(f.Items))]
	switch x.below(8) {
	case 0:
		f.Name = pick(x, []string{"m", "n", "", "9", "if", long(33)})
	case 1:
		i.Kind = pick(x, []int{0, 1, 2, 3, 4, -1, 257})
	case 2:
		i.Name = pick(x, []string{"A", "C", "zz", "", "9", "if", long(33)})
	case 3:
		i.Type = pick(x, []int{0, 1, 2, 3, 4, -1, 257})
	case 4:
		i.Bits = pick(x, []uint64{0, 1, 2, floats.NaN + 1})
	case 5:
		i.Params = append(i.Params, pick(x, []int{0, 1, 2, 3, 4, -1}))
	case 6:
		f.Items = append(f.Items, pick(x, f.Items))
	case 7:
		shuffle(x, f.Items)
	}
	return f
}

// literal: an expression of the type that has a value.
func (x *mixer) literal(typ int) api.Expr {
	v := api.Value{Type: typ, Bits: uint64(x.below(2))}
	switch typ {
	case api.TInt:
		v.Bits = pick(x, []uint64{0, 1, 2, 7, math.MaxInt64})
	case api.TFloat:
		v.Bits = pick(x, []uint64{0, 1, floats.NaN, 0x7ff0000000000000, 0x3ff8000000000000})
	}
	return api.Expr{Kind: api.ELit, Value: v}
}

// expr: an expression that may name constants, own and far, that are there or are not.
func (x *mixer) expr(typ int) api.Expr {
	switch x.below(16) {
	case 0, 1:
		return api.Expr{Kind: api.EName, Name: pick(x, []string{"A", "B", "C", "X"})}
	case 2, 3:
		return api.Expr{Kind: api.EFar, Mod: pick(x, []string{"k", "l", "m", "n"}), Name: pick(x, []string{"A", "B", "C", "X"})}
	case 4:
		if typ != api.TBool {
			return api.Expr{Kind: api.EUn, Op: api.UNeg, Kids: []api.Expr{x.expr(typ)}}
		}
	case 5:
		if typ != api.TBool {
			return api.Expr{Kind: api.EBin, Op: 1 + x.below(4), Kids: []api.Expr{x.expr(typ), x.expr(typ)}}
		}
	case 6:
		if x.below(6) == 0 {
			return api.Expr{Kind: api.EInput}
		}
	}
	return x.literal(typ)
}

// decl: a declaration, most often one that is right by itself.
func (x *mixer) decl(name string) api.Decl {
	d := api.Decl{Kind: 1 + x.below(3), Name: name, Type: 1 + x.below(3)}
	if d.Kind == api.DFn {
		d.Type, d.Export, d.Params, d.Body = x.below(4), x.below(2) == 0, x.params(), x.body()
		return d
	}
	d.Export = d.Kind == api.DConst && x.below(2) == 0
	d.E = []api.Expr{x.expr(d.Type)}
	if x.below(60) == 0 {
		d.Type = x.below(5)
	}
	return d
}

func (x *mixer) params() []api.Param {
	var l []api.Param
	for at := range x.below(9) {
		l = append(l, api.Param{Name: fmt.Sprint("p", at), Type: 1 + x.below(3)})
	}
	return l
}

// body: statements in which much is wrong, but nothing by the grammar.
func (x *mixer) body() []api.Stmt {
	call := api.Expr{Kind: api.ECall, Name: pick(x, []string{"f", "g", "nobody"})}
	l := []api.Stmt{
		{Kind: api.SShow, E: []api.Expr{x.expr(api.TInt)}},
		{Kind: api.SSet, Name: "nobody", E: []api.Expr{x.expr(api.TBool)}},
		{Kind: api.SDo, E: []api.Expr{call}},
		{Kind: api.SReturn, E: []api.Expr{x.expr(api.TFloat)}},
		{Kind: api.SIf, E: []api.Expr{x.expr(api.TInt)}, Body: []api.Stmt{{Kind: api.SReturn}}},
	}
	shuffle(x, l)
	return l[:x.below(len(l))]
}

func (x *mixer) module() api.Module {
	m := api.Module{Name: "m"}
	for range x.below(4) {
		m.Imports = append(m.Imports, pick(x, []string{"k", "l", "n", "k", "m"}))
	}
	used := x.someNames()
	shuffle(x, used)
	for _, name := range used {
		m.Decls = append(m.Decls, x.decl(name))
	}
	if len(m.Decls) > 0 && x.below(15) == 0 {
		m.Decls = append(m.Decls, x.decl(m.Decls[0].Name))
	}
	return m
}

// ifaces: of most modules that may be imported one or several, now and then one that is not right.
func (x *mixer) ifaces() []api.Iface {
	var l []api.Iface
	for _, name := range []string{"k", "l", "m", "n", "k", "other"} {
		switch x.below(16) {
		case 0:
		case 1:
			l = append(l, x.near(x.rightIface(name)))
		default:
			l = append(l, x.rightIface(name))
		}
	}
	shuffle(x, l)
	return l
}
