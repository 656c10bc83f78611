package fold_test

import (
	"fmt"
	"math"
	"slices"
	"testing"

	"foundry/api"
	"foundry/floats"
	"foundry/fold"
	"foundry/parse"
)

const (
	least    = math.MinInt64
	greatest = math.MaxInt64
	signBit  = 1 << 63
)

// is fails unless got is what it has to be.
func is[T comparable](t *testing.T, what string, got, want T) {
	t.Helper()
	if got != want {
		t.Errorf("%s: %v, not %v", what, got, want)
	}
}

func whole(n int64) api.Value {
	return api.Value{Type: api.TInt, Bits: uint64(n)}
}

// float: a float of Go's, of a NaN the one that is told.
func float(x float64) api.Value {
	if x != x {
		return bitsFloat(floats.NaN)
	}
	return bitsFloat(math.Float64bits(x))
}

func bitsFloat(bits uint64) api.Value {
	return api.Value{Type: api.TFloat, Bits: bits}
}

func truth(b bool) api.Value {
	if b {
		return api.Value{Type: api.TBool, Bits: 1}
	}
	return api.Value{Type: api.TBool, Bits: 0}
}

// outcome: all that an operator answers.
type outcome struct {
	value api.Value
	trap  int
}

func un(op int, a api.Value) outcome {
	v, trap := fold.Un(op, a)
	return outcome{v, trap}
}

func bin(op int, a, b api.Value) outcome {
	v, trap := fold.Bin(op, a, b)
	return outcome{v, trap}
}

func has(v api.Value) outcome {
	return outcome{v, 0}
}

func traps(trap int) outcome {
	return outcome{trap: trap}
}

// result: all that Eval answers.
type result struct {
	value api.Value
	code  api.Errno
}

func eval(e api.Expr, l []fold.Const) result {
	v, code := fold.Eval(e, l)
	return result{v, code}
}

func comesTo(v api.Value) result {
	return result{v, api.OK}
}

func fails(code api.Errno) result {
	return result{code: code}
}

// expr: the expression of a text.
func expr(t *testing.T, text string) api.Expr {
	t.Helper()
	e, at, code := parse.Expr(text)
	if code != api.OK {
		t.Fatalf("%q: %v at %d", text, code, at)
	}
	return e
}

// module: the module m with these declarations.
func module(t *testing.T, decls string) api.Module {
	t.Helper()
	m, at, code := parse.Parse("module m; " + decls)
	if code != api.OK {
		t.Fatalf("%q: %v at %d", decls, code, at)
	}
	return m
}

func own(name string, v api.Value) fold.Const {
	return fold.Const{Name: name, Value: v}
}

func far(mod, name string, v api.Value) fold.Const {
	return fold.Const{Mod: mod, Name: name, Value: v}
}

func lit(v api.Value) api.Expr {
	return api.Expr{Kind: api.ELit, Value: v}
}

func name(s string) api.Expr {
	return api.Expr{Kind: api.EName, Name: s}
}

func farName(mod, s string) api.Expr {
	return api.Expr{Kind: api.EFar, Mod: mod, Name: s}
}

func unary(op int, e api.Expr) api.Expr {
	return api.Expr{Kind: api.EUn, Op: op, Kids: []api.Expr{e}}
}

func binary(op int, a, b api.Expr) api.Expr {
	return api.Expr{Kind: api.EBin, Op: op, Kids: []api.Expr{a, b}}
}

// unaries, binaries: all operators of one and of two.
func unaries() []int {
	return []int{api.UNeg, api.UNot, api.UInt, api.UFloat}
}

func binaries() []int {
	return []int{api.BAdd, api.BSub, api.BMul, api.BDiv, api.BRem, api.BEq, api.BNe, api.BLt, api.BLe, api.BGt, api.BGe, api.BAnd, api.BOr}
}

// noOperators: numbers that are operators neither of one nor of two.
func noOperators() []int {
	return []int{0, -1, -2, -12, 14, 15, 255, 257, 1<<32 + 1, -1 << 32, math.MinInt, math.MinInt + 1, math.MaxInt, math.MaxInt - 1}
}

// wholes: ints at their edges and between them.
func wholes() []api.Value {
	var l []api.Value
	for _, n := range []int64{
		0, 1, 2, 3, 7, 10, 100, 1<<31 - 1, 1 << 31, 1<<32 - 1, 1 << 32, 3037000499, 3037000500, 1<<53 - 1, 1 << 53, 1<<53 + 1, 1<<53 + 3,
		1<<62 - 1, 1 << 62, 1<<62 + 1, 1<<63 - 513, 1<<63 - 512, 1<<63 - 511, greatest - 1, greatest,
	} {
		l = append(l, whole(n), whole(-n))
	}
	return append(l, whole(least), whole(least+1))
}

// reals: floats at their edges, and at those of the ints, of both signs, and the one NaN.
func reals() []api.Value {
	var l []api.Value
	for _, x := range []float64{
		0, 1, 0.5, 0.1, 1.5, 2, 3, 0x1p-1074, 0x1p-1022, math.MaxFloat64, math.Inf(1), 1e300,
		math.Nextafter(1, 0), math.Nextafter(1, 2), 0x1p53, 0x1p62, 0x1p63, math.Nextafter(0x1p63, 0), math.Nextafter(0x1p63, math.Inf(1)), 0x1p64,
	} {
		l = append(l, float(x), float(math.Copysign(x, -1)))
	}
	return append(l, bitsFloat(floats.NaN))
}

func truths() []api.Value {
	return []api.Value{truth(false), truth(true)}
}

// rightValues: values of each type.
func rightValues() []api.Value {
	return slices.Concat(wholes(), reals(), truths())
}

// wrongValues: what is no value: NaNs but the one, bools that are neither, types that are none.
func wrongValues() []api.Value {
	var l []api.Value
	for _, bits := range []uint64{floats.NaN - 1, floats.NaN + 1, floats.NaN | signBit, 0x7ff0000000000001, 0x7fffffffffffffff, 0xfff8000000000000, math.MaxUint64} {
		l = append(l, bitsFloat(bits))
	}
	for _, bits := range []uint64{2, 3, 256, 1 << 32, signBit, signBit + 1, math.MaxUint64} {
		l = append(l, api.Value{Type: api.TBool, Bits: bits})
	}
	for _, typ := range []int{api.TNone, -1, 4, 5, 257, 1<<32 + 1, -1 << 32, math.MinInt, math.MaxInt} {
		l = append(l, api.Value{Type: typ}, api.Value{Type: typ, Bits: 1}, api.Value{Type: typ, Bits: math.MaxUint64})
	}
	return l
}

func allValues() []api.Value {
	return append(rightValues(), wrongValues()...)
}

// mixer: numbers without a pattern, the same ones each time.
type mixer uint64

func (x *mixer) next() uint64 {
	*x += 0x9e3779b97f4a7c15
	z := uint64(*x)
	z = (z ^ z>>30) * 0xbf58476d1ce4e5b9
	z = (z ^ z>>27) * 0x94d049bb133111eb
	return z ^ z>>31
}

func (x *mixer) below(n int) int {
	return int(x.next() % uint64(n))
}

func pick[T any](x *mixer, l []T) T {
	return l[x.below(len(l))]
}

// whole: an int of any size.
func (x *mixer) whole() api.Value {
	return whole(int64(x.next()) >> x.below(64))
}

// float: a float of any size, a NaN as the one.
func (x *mixer) float() api.Value {
	if x.below(2) == 0 {
		return float(math.Float64frombits(x.next()))
	}
	return float(float64(int64(x.next())>>x.below(64)) / float64(int64(1)<<x.below(12)))
}

// value: a value that is right.
func (x *mixer) value() api.Value {
	switch x.below(5) {
	case 0:
		return pick(x, rightValues())
	case 1:
		return x.float()
	case 2:
		return pick(x, truths())
	}
	return x.whole()
}

// literal: an expression that is just a value's.
func (x *mixer) literal() api.Expr {
	switch x.below(4) {
	case 0:
		return lit(float(float64(x.below(5)) / 2))
	case 1:
		return lit(pick(x, truths()))
	}
	return lit(whole(pick(x, []int64{0, 1, 2, 3, 7, greatest})))
}

// consts: some constants, of few names, so that some stand there twice; now and then one that is not right.
func (x *mixer) consts() []fold.Const {
	var l []fold.Const
	for range x.below(8) {
		v := x.value()
		if x.below(8) == 0 {
			v = pick(x, wrongValues())
		}
		l = append(l, far(pick(x, []string{"", "", "k", "l"}), pick(x, []string{"A", "B", "C"}), v))
	}
	return l
}

// expr: an expression of at most that depth; one in some tens is not right.
func (x *mixer) expr(depth int) api.Expr {
	if depth == 0 || x.below(5) == 0 {
		switch x.below(12) {
		case 0, 1, 2:
			return name(pick(x, []string{"A", "B", "C"}))
		case 3, 4:
			return farName(pick(x, []string{"k", "l"}), pick(x, []string{"A", "B", "C"}))
		}
		return x.literal()
	}
	switch x.below(40) {
	case 0:
		return api.Expr{Kind: api.ECall, Name: "f", Kids: x.exprs(depth - 1)}
	case 1:
		return api.Expr{Kind: api.EFarCall, Mod: "k", Name: "f", Kids: x.exprs(depth - 1)}
	case 2:
		return api.Expr{Kind: api.EInput}
	case 3:
		return pick(x, wrongExprs()).e
	}
	if x.below(4) == 0 {
		return unary(pick(x, unaries()), x.expr(depth-1))
	}
	return binary(pick(x, binaries()), x.expr(depth-1), x.expr(depth-1))
}

func (x *mixer) exprs(depth int) []api.Expr {
	var l []api.Expr
	for range x.below(3) {
		l = append(l, x.expr(depth))
	}
	return l
}

// wrongExpr: an expression that is not right, and the error of it.
type wrongExpr struct {
	e    api.Expr
	code api.Errno
}

func wrongExprs() []wrongExpr {
	one := lit(whole(1))
	deep := one
	for range api.MaxDepth + 1 {
		deep = unary(api.UNeg, deep)
	}
	many := slices.Repeat([]api.Expr{one}, api.MaxParams+1)
	return []wrongExpr{
		{api.Expr{}, api.ErrArg},
		{api.Expr{Kind: 9}, api.ErrArg},
		{api.Expr{Kind: math.MinInt}, api.ErrArg},
		{api.Expr{Kind: math.MaxInt}, api.ErrArg},
		{lit(whole(-1)), api.ErrArg},
		{lit(bitsFloat(floats.NaN + 1)), api.ErrArg},
		{lit(api.Value{Type: api.TBool, Bits: 2}), api.ErrArg},
		{lit(api.Value{}), api.ErrArg},
		{api.Expr{Kind: api.ELit, Name: "A", Value: whole(1)}, api.ErrArg},
		{api.Expr{Kind: api.EName, Name: "A", Value: whole(1)}, api.ErrArg},
		{api.Expr{Kind: api.EName, Mod: "k", Name: "A"}, api.ErrArg},
		{name(""), api.ErrName},
		{name("while"), api.ErrName},
		{farName("", "A"), api.ErrName},
		{farName("k", "9"), api.ErrName},
		{name(string(slices.Repeat([]byte("a"), api.MaxName+1))), api.ErrBig},
		{api.Expr{Kind: api.ECall, Name: "f", Kids: many}, api.ErrBig},
		{unary(0, one), api.ErrArg},
		{unary(5, one), api.ErrArg},
		{unary(math.MinInt, one), api.ErrArg},
		{binary(0, one, one), api.ErrArg},
		{binary(14, one, one), api.ErrArg},
		{binary(math.MaxInt, one, one), api.ErrArg},
		{api.Expr{Kind: api.EUn, Op: api.UNeg}, api.ErrArg},
		{api.Expr{Kind: api.EUn, Op: api.UNeg, Kids: many[:2]}, api.ErrArg},
		{api.Expr{Kind: api.EBin, Op: api.BAdd}, api.ErrArg},
		{api.Expr{Kind: api.EBin, Op: api.BAdd, Kids: many[:1]}, api.ErrArg},
		{api.Expr{Kind: api.EBin, Op: api.BAdd, Kids: many[:3]}, api.ErrArg},
		{deep, api.ErrDeep},
	}
}

// roomyExpr: the same expression, each list of it by itself, with something in its spare room.
func roomyExpr(e api.Expr) api.Expr {
	kids := make([]api.Expr, 0, len(e.Kids)+2)
	for _, kid := range e.Kids {
		kids = append(kids, roomyExpr(kid))
	}
	e.Kids = append(kids, name("spare"), name("spare"))[:len(kids)]
	return e
}

func roomyConsts(l []fold.Const) []fold.Const {
	c := append(make([]fold.Const, 0, len(l)+2), l...)
	return append(c, own("spare", whole(77)), own("spare", whole(78)))[:len(l)]
}

func roomyModule(m api.Module) api.Module {
	m.Imports = append(append(make([]string, 0, len(m.Imports)+1), m.Imports...), "spare")[:len(m.Imports)]
	decls := make([]api.Decl, 0, len(m.Decls)+2)
	for _, d := range m.Decls {
		l := make([]api.Expr, 0, len(d.E)+1)
		for _, e := range d.E {
			l = append(l, roomyExpr(e))
		}
		d.E = append(l, name("spare"))[:len(d.E)]
		decls = append(decls, d)
	}
	spare := api.Decl{Kind: api.DConst, Name: "spare", Type: api.TInt, E: []api.Expr{lit(whole(1))}}
	m.Decls = append(decls, spare, spare)[:len(m.Decls)]
	return m
}

// exprKey: all that an expression has, what stands in the spare room too.
func exprKey(e api.Expr) string {
	key := fmt.Sprint(e.Kind, e.Op, e.Mod, " ", e.Name, e.Value, len(e.Kids), "(")
	for _, kid := range e.Kids[:cap(e.Kids)] {
		key += exprKey(kid) + ","
	}
	return key + ")"
}

func constsKey(l []fold.Const) string {
	return fmt.Sprint(len(l), l[:cap(l)])
}

func moduleKey(m api.Module) string {
	key := fmt.Sprint(m.Name, len(m.Imports), m.Imports[:cap(m.Imports)], len(m.Decls))
	for _, d := range m.Decls[:cap(m.Decls)] {
		key += fmt.Sprint("\n", d.Kind, d.Export, d.Name, d.Type, d.Params, d.Body, len(d.E))
		for _, e := range d.E[:cap(d.E)] {
			key += " " + exprKey(e)
		}
	}
	return key
}

// scribble writes over all that the list has, spare room too.
func scribble(l []fold.Const) {
	l = l[:cap(l)]
	for at := range l {
		l[at] = far("scribble", "scribble", whole(99))
	}
}
