package parse_test

import (
	"fmt"
	"reflect"
	"slices"
	"strings"
	"testing"

	"foundry/api"
	"foundry/floats"
	"foundry/lex"
	"foundry/parse"
	"foundry/tree"
)

const infinity = 0x7ff0000000000000

func lit(typ int, bits uint64) api.Expr {
	return api.Expr{Kind: api.ELit, Value: api.Value{Type: typ, Bits: bits}}
}

func num(n uint64) api.Expr {
	return lit(api.TInt, n)
}

func name(s string) api.Expr {
	return api.Expr{Kind: api.EName, Name: s}
}

func far(mod, s string) api.Expr {
	return api.Expr{Kind: api.EFar, Mod: mod, Name: s}
}

func call(s string, kids ...api.Expr) api.Expr {
	return api.Expr{Kind: api.ECall, Name: s, Kids: kids}
}

func farCall(mod, s string, kids ...api.Expr) api.Expr {
	return api.Expr{Kind: api.EFarCall, Mod: mod, Name: s, Kids: kids}
}

func un(op int, e api.Expr) api.Expr {
	return api.Expr{Kind: api.EUn, Op: op, Kids: []api.Expr{e}}
}

func bin(op int, a, b api.Expr) api.Expr {
	return api.Expr{Kind: api.EBin, Op: op, Kids: []api.Expr{a, b}}
}

func one(e api.Expr) []api.Expr {
	return []api.Expr{e}
}

func show(n uint64) api.Stmt {
	return api.Stmt{Kind: api.SShow, E: one(num(n))}
}

// module: one of that name, without imports, with these declarations.
func module(s string, l ...api.Decl) api.Module {
	return api.Module{Name: s, Decls: l}
}

// marks: those of the operators of two, from BAdd on.
func marks() []string {
	return []string{"+", "-", "*", "/", "%", "==", "!=", "<", "<=", ">", ">=", "&&", "||"}
}

// levels: of the operators of two, from BAdd on: how tightly they hold.
func levels() []int {
	return []int{4, 4, 5, 5, 5, 3, 3, 3, 3, 3, 3, 2, 1}
}

// same: are they alike, all through? An empty list is like none, and no name here has a blank in it.
func same(a, b any) bool {
	return fmt.Sprintf("%+v", a) == fmt.Sprintf("%+v", b)
}

// lists tells each list of what was parsed, with its spare room, to what is done with it.
func lists(v reflect.Value, do func(reflect.Value)) {
	switch v.Kind() {
	case reflect.Struct:
		for i := range v.NumField() {
			lists(v.Field(i), do)
		}
	case reflect.Slice:
		for i := range v.Len() {
			lists(v.Index(i), do)
		}
		if v.Cap() > 0 {
			do(v)
		}
	}
}

// isNew fails unless each list of what was parsed has memory of its own; and writes all over it.
func isNew[T any](t *testing.T, text string, thing *T) {
	t.Helper()
	seen := map[uintptr]bool{}
	lists(reflect.ValueOf(thing).Elem(), func(l reflect.Value) {
		size := l.Type().Elem().Size()
		for i := range l.Cap() {
			at := l.Pointer() + uintptr(i)*size
			if seen[at] {
				t.Errorf("%q: two lists share memory", text)
			}
			seen[at] = true
		}
		l.Slice(0, l.Cap()).Clear()
	})
}

// isThing fails unless the text is read as that, and again when the first answer is written over.
func isThing[T any](t *testing.T, read func(string) (T, int, api.Errno), text string, want T) {
	t.Helper()
	for range 2 {
		got, at, e := read(text)
		if !same(got, want) || at != 0 || e != api.OK {
			t.Errorf("%q: %+v, %d, %d, not %+v", text, got, at, e, want)
			return
		}
		isNew(t, text, &got)
	}
}

func isModule(t *testing.T, text string, want api.Module) {
	t.Helper()
	isThing(t, parse.Parse, text, want)
	if m, _, _ := parse.Parse(text); tree.Right(m) != api.OK || !tree.Same(m, want) {
		t.Errorf("%q: %+v is not right", text, m)
	}
}

func isExpr(t *testing.T, text string, want api.Expr) {
	t.Helper()
	isThing(t, parse.Expr, text, want)
	if e, _, _ := parse.Expr(text); tree.RightExpr(e) != api.OK || !tree.SameExpr(e, want) {
		t.Errorf("%q: %+v is not right", text, e)
	}
	isModule(t, "module m; const C: int = "+text+";", module("m", api.Decl{Kind: api.DConst, Name: "C", Type: api.TInt, E: one(want)}))
}

// isBody fails unless the text is read as these statements of a function.
func isBody(t *testing.T, text string, want ...api.Stmt) {
	t.Helper()
	isModule(t, "module m; fn f() {"+text+"}", module("m", api.Decl{Kind: api.DFn, Name: "f", Body: want}))
}

// isWrong fails unless the text, without the `^` that marks the place, has that error at that place.
func isWrong[T any](t *testing.T, read func(string) (T, int, api.Errno), code api.Errno, marked string) {
	t.Helper()
	at := strings.IndexByte(marked, '^')
	text := marked[:at] + marked[at+1:]
	var zero T
	if got, place, e := read(text); !reflect.DeepEqual(got, zero) || place != at || e != code {
		t.Errorf("%q: %+v, %d, %d, not %d, %d", text, got, place, e, at, code)
	}
}

func wrongModule(t *testing.T, code api.Errno, marked string) {
	t.Helper()
	isWrong(t, parse.Parse, code, marked)
}

func wrongExpr(t *testing.T, code api.Errno, marked string) {
	t.Helper()
	isWrong(t, parse.Expr, code, marked)
	isWrong(t, parse.Parse, code, "module m; var v: bool = "+marked)
}

func wrongBody(t *testing.T, code api.Errno, marked string) {
	t.Helper()
	isWrong(t, parse.Parse, code, "module m; fn f() {"+marked)
}

// tokensOf: the tokens of a text that has no fault by itself.
func tokensOf(t *testing.T, text string) []lex.Token {
	t.Helper()
	l, _, e := lex.Lex(text)
	if e != api.OK {
		t.Fatalf("%q: %d", text, e)
	}
	return l
}

// fullText: a module with each rule of the grammar, with and without what may be left out in it.
const fullText = `module full; import k; import l;
export const A: int = 1; const B: float = 2.5; var v: bool = true;
export fn f(a: int, b: float, c: bool): float { return b; }
fn g(x: int) { return; }
export fn h(): bool { }
fn main(): int {
  let a = - -1 + !b * 2 - (3 % 4) / 5;
  a = int(1.5) + int(f(a, inf, nan)) - input;
  if a == 1 || a != 2 && a < 3 { show a; }
  if a <= b { fail 4; } else { show k.X; g(); }
  while a > 0 && b >= float(a) { a = a - 1; }
  try { g(a); k.f(); l.g(a, false); } catch e { return e; }
  show g(k.f(1), h()) + 0x1.8p+0;
}`

// fullModule: what fullText says.
func fullModule() api.Module {
	a, b := name("a"), name("b")
	stmt := func(kind int, l ...api.Expr) api.Stmt { return api.Stmt{Kind: kind, E: l} }
	sum := bin(api.BSub, bin(api.BAdd, un(api.UNeg, un(api.UNeg, num(1))), bin(api.BMul, un(api.UNot, b), num(2))), bin(api.BDiv, bin(api.BRem, num(3), num(4)), num(5)))
	conv := bin(api.BSub, bin(api.BAdd, un(api.UInt, lit(api.TFloat, 0x3ff8000000000000)), un(api.UInt, call("f", a, lit(api.TFloat, infinity), lit(api.TFloat, floats.NaN)))), api.Expr{Kind: api.EInput})
	either := bin(api.BOr, bin(api.BEq, a, num(1)), bin(api.BAnd, bin(api.BNe, a, num(2)), bin(api.BLt, a, num(3))))
	body := []api.Stmt{
		{Kind: api.SLet, Name: "a", E: one(sum)},
		{Kind: api.SSet, Name: "a", E: one(conv)},
		{Kind: api.SIf, E: one(either), Body: []api.Stmt{stmt(api.SShow, a)}},
		{Kind: api.SIf, E: one(bin(api.BLe, a, b)), Body: []api.Stmt{stmt(api.SFail, num(4))}, Else: []api.Stmt{stmt(api.SShow, far("k", "X")), stmt(api.SDo, call("g"))}},
		{Kind: api.SWhile, E: one(bin(api.BAnd, bin(api.BGt, a, num(0)), bin(api.BGe, b, un(api.UFloat, a)))), Body: []api.Stmt{{Kind: api.SSet, Name: "a", E: one(bin(api.BSub, a, num(1)))}}},
		{Kind: api.STry, Name: "e", Body: []api.Stmt{stmt(api.SDo, call("g", a)), stmt(api.SDo, farCall("k", "f")), stmt(api.SDo, farCall("l", "g", a, lit(api.TBool, 0)))}, Else: []api.Stmt{stmt(api.SReturn, name("e"))}},
		stmt(api.SShow, bin(api.BAdd, call("g", farCall("k", "f", num(1)), call("h")), lit(api.TFloat, 0x3ff8000000000000))),
	}
	return api.Module{Name: "full", Imports: []string{"k", "l"}, Decls: []api.Decl{
		{Kind: api.DConst, Export: true, Name: "A", Type: api.TInt, E: one(num(1))},
		{Kind: api.DConst, Name: "B", Type: api.TFloat, E: one(lit(api.TFloat, 0x4004000000000000))},
		{Kind: api.DVar, Name: "v", Type: api.TBool, E: one(lit(api.TBool, 1))},
		{Kind: api.DFn, Export: true, Name: "f", Type: api.TFloat, Params: []api.Param{{Name: "a", Type: api.TInt}, {Name: "b", Type: api.TFloat}, {Name: "c", Type: api.TBool}}, Body: []api.Stmt{stmt(api.SReturn, b)}},
		{Kind: api.DFn, Name: "g", Params: []api.Param{{Name: "x", Type: api.TInt}}, Body: []api.Stmt{stmt(api.SReturn)}},
		{Kind: api.DFn, Export: true, Name: "h", Type: api.TBool},
		{Kind: api.DFn, Name: "main", Type: api.TInt, Body: body},
	}}
}

// allTokens: a text of each token that there is, of names and numbers one each.
func allTokens() []string {
	l := []string{"x", "7", "2.5", "0x1p+0"}
	l = append(l, strings.Fields("bool catch const else export fail false float fn if import inf input int let module nan return show true try var while")...)
	return append(l, strings.Fields("<= >= == != && || ( ) { } , ; : . = + - * / % < > !")...)
}

// mixer: numbers without a pattern, the same ones each time.
type mixer uint64

func (x *mixer) next() uint64 {
	*x += 0x9e3779b97f4a7c15
	z := uint64(*x)
	z = (z ^ z>>30) * 0xbf58476d1ce4e5b9
	z = (z ^ z>>27) * 0x94d049bb133111eb
	return z ^ z>>31
}

func (x *mixer) below(n int) int {
	return int(x.next() % uint64(n))
}

func pick[T any](x *mixer, l ...T) T {
	return l[x.below(len(l))]
}

func (x *mixer) name() string {
	return pick(x, "a", "b", "x1", "_", "While", "main", strings.Repeat("n", 32))
}

// expr: one that is right, but that it may be nested too deep.
func (x *mixer) expr(size int) api.Expr {
	if size <= 0 {
		return x.leaf()
	}
	size--
	switch x.below(6) {
	case 0:
		return call(x.name(), x.exprs(x.below(4), size)...)
	case 1:
		return farCall(x.name(), x.name(), x.exprs(x.below(9), size)...)
	case 2, 3:
		return un(1+x.below(4), x.expr(size))
	}
	left := x.below(size + 1)
	return bin(1+x.below(13), x.expr(left), x.expr(size-left))
}

func (x *mixer) leaf() api.Expr {
	switch x.below(6) {
	case 0:
		return num(pick(x, 0, 1, 10, 1<<63-1, x.next()>>1))
	case 1:
		// The second highest bit is not set, so that no number but those named is above all floats.
		return lit(api.TFloat, pick(x, 0, 1, 0x3ff0000000000000, infinity-1, infinity, floats.NaN, x.next()>>2))
	case 2:
		return lit(api.TBool, x.next()&1)
	case 3:
		return name(x.name())
	case 4:
		return far(x.name(), x.name())
	}
	return api.Expr{Kind: api.EInput}
}

func (x *mixer) exprs(n, size int) []api.Expr {
	var l []api.Expr
	for range n {
		l = append(l, x.expr(size/n))
	}
	return l
}

func (x *mixer) block(size int) []api.Stmt {
	var l []api.Stmt
	for range x.below(4) {
		l = append(l, x.stmt(size-1))
	}
	return l
}

func (x *mixer) stmt(size int) api.Stmt {
	s := api.Stmt{Kind: 1 + x.below(9)}
	if size <= 0 {
		s.Kind = pick(x, api.SLet, api.SSet, api.SReturn, api.SShow, api.SFail, api.SDo)
	}
	if s.Kind != api.STry {
		s.E = one(x.expr(x.below(4)))
	}
	switch s.Kind {
	case api.SLet, api.SSet:
		s.Name = x.name()
	case api.SIf:
		s.Body, s.Else = x.block(size), x.block(size)
	case api.SWhile:
		s.Body = x.block(size)
	case api.SReturn:
		s.E = s.E[:x.below(2)]
	case api.STry:
		s.Name, s.Body, s.Else = x.name(), x.block(size), x.block(size)
	case api.SDo:
		s.E = one(pick(x, call(x.name(), x.exprs(x.below(3), 2)...), farCall(x.name(), x.name(), x.exprs(x.below(3), 2)...)))
	}
	return s
}

func (x *mixer) decl() api.Decl {
	d := api.Decl{Kind: 1 + x.below(3), Name: x.name(), Type: 1 + x.below(3)}
	if d.Kind != api.DFn {
		d.Export = d.Kind == api.DConst && x.below(2) == 0
		d.E = one(x.expr(x.below(12)))
		return d
	}
	d.Export, d.Type = x.below(2) == 0, x.below(4)
	for range x.below(9) {
		d.Params = append(d.Params, api.Param{Name: x.name(), Type: 1 + x.below(3)})
	}
	d.Body = x.block(x.below(5))
	return d
}

// module: one that is right, but that it may be too long.
func (x *mixer) module() api.Module {
	m := api.Module{Name: x.name()}
	for range x.below(3) {
		m.Imports = append(m.Imports, x.name())
	}
	for range x.below(4) {
		m.Decls = append(m.Decls, x.decl())
	}
	return m
}

// spread: the tokens with something between any two, and at either end, that leaves no trace.
func (x *mixer) spread(l []lex.Token) string {
	gap := func() string {
		s := pick(x, " ", "\n", "\t", "\r\n", "//\n", "// a ( { remark\n", " // module x; \r\n\n")
		if x.below(4) == 0 {
			s += " // \"\n"
		}
		return s
	}
	var b strings.Builder
	b.WriteString(gap())
	for _, t := range l {
		// A remark right behind the mark `/` would begin one byte too early.
		b.WriteString(t.Text + " " + gap())
	}
	return b.String()
}

// spoil: the tokens with a few taken out, put in, changed or moved.
func (x *mixer) spoil(l []lex.Token) []lex.Token {
	l = slices.Clone(l)
	for range 1 + x.below(2) {
		if len(l) == 0 {
			return l
		}
		i := x.below(len(l))
		other := lex.Token{Text: pick(x, allTokens()...)}
		switch x.below(5) {
		case 0:
			l = slices.Delete(l, i, i+1)
		case 1:
			l = slices.Insert(l, i, other)
		case 2:
			l[i] = other
		case 3:
			j := x.below(len(l))
			l[i], l[j] = l[j], l[i]
		case 4:
			l = l[:i]
		}
	}
	return l
}
