package gen_test

import (
	"fmt"
	"strings"
	"testing"

	"foundry/api"
	"foundry/code"
	"foundry/gen"
	"foundry/object"
)

// The modules of this file are put together by hand, since no text has room for them.

func input() api.Expr {
	return api.Expr{Kind: api.EInput}
}

func lit(v api.Value) api.Expr {
	return api.Expr{Kind: api.ELit, Value: v}
}

func bin(op int, left, right api.Expr) api.Expr {
	return api.Expr{Kind: api.EBin, Op: op, Kids: []api.Expr{left, right}}
}

func show(e api.Expr) api.Stmt {
	return api.Stmt{Kind: api.SShow, E: []api.Expr{e}}
}

func returned(l ...api.Expr) api.Stmt {
	return api.Stmt{Kind: api.SReturn, E: l}
}

func decl(name string, result int, body ...api.Stmt) api.Decl {
	return api.Decl{Kind: api.DFn, Name: name, Type: result, Body: body}
}

func variable(name string) api.Decl {
	return api.Decl{Kind: api.DVar, Name: name, Type: api.TInt, E: []api.Expr{lit(num(1))}}
}

// counting: a function without a result of just so many instructions, of one byte each.
func counting(name string, n int) api.Decl {
	// A show of input has two, a return one, and so the return behind the Body.
	body := times((n-1)/2, show(input()))
	if n%2 == 0 {
		body = append(body, returned())
	}
	return decl(name, api.TNone, body...)
}

// ending: the same of a function with a result.
func ending(name string, n int) api.Decl {
	body := times((n-2)/2, show(input()))
	if n%2 == 1 {
		body[0] = show(api.Expr{Kind: api.EUn, Op: api.UNeg, Kids: []api.Expr{input()}})
	}
	return decl(name, api.TInt, append(body, returned(input()))...)
}

func made(decls ...api.Decl) api.Module {
	return api.Module{Name: "m", Decls: decls}
}

func TestFunctionOfMaxCodeInstructions(t *testing.T) {
	constant := api.Decl{Kind: api.DConst, Name: "C", Type: api.TInt, E: []api.Expr{lit(num(1))}}
	for _, f := range []func(string, int) api.Decl{counting, ending} {
		for _, n := range []int{5, 6, 4095, 4096} {
			for _, m := range []api.Module{
				made(f("f", n)),
				made(constant, f("f", n)),
				made(counting("a", 7), variable("v"), f("f", n), counting("b", 8)),
				made(f("f", n), counting("a", 4096), ending("b", 4096)),
			} {
				l, e := gen.Code(m, nil, "f")
				is(t, fmt.Sprint(n, " instructions"), fmt.Sprint(len(l), int(e)), fmt.Sprint(n, 0))
				isRight(t, fmt.Sprint(n, " instructions"), m, nil)
			}
		}
		for _, n := range []int{4097, 4098, 20000} {
			what := fmt.Sprint(n, " instructions")
			refused(t, what+" alone", made(f("f", n)), nil, 0, api.ErrBig)
			refused(t, what+" behind a constant", made(constant, f("f", n)), nil, 1, api.ErrBig)
			refused(t, what+" behind a variable and functions", made(counting("a", 4096), variable("v"), ending("b", 4096), f("f", n)), nil, 3, api.ErrBig)
			refused(t, what+" ahead of functions", made(constant, f("f", n), counting("a", 7)), nil, 1, api.ErrBig)
			refused(t, what+" ahead of a greater one", made(variable("v"), counting("a", 4096), f("f", n), f("g", n+1000), constant), nil, 2, api.ErrBig)
			refused(t, what+" ahead of an equal one", made(variable("v"), f("f", n), f("g", n)), nil, 1, api.ErrBig)
			// What check does not take is told ahead of it, wherever it stands.
			refused(t, what+" ahead of a wrong function", made(f("f", n), decl("g", api.TInt)), nil, 1, api.ErrReturn)
			refused(t, what+" behind a wrong function", made(decl("g", api.TInt), f("f", n)), nil, 0, api.ErrReturn)
		}
	}
}

// Each kind of statement that may stand there often, just at the limit, and beyond it. What has more bytes than an object may have is refused at 0 where it has not too many instructions.
func TestMaxCodeByEachKind(t *testing.T) {
	truths := lit(truth(1))
	condition := []api.Expr{{Kind: api.EName, Name: "b"}}
	for what, c := range map[string]struct {
		size int
		fits bool
		of   api.Stmt
	}{
		"set":          {2, true, api.Stmt{Kind: api.SSet, Name: "a", E: []api.Expr{input()}}},
		"if":           {2, true, api.Stmt{Kind: api.SIf, E: condition}},
		"if with else": {4, true, api.Stmt{Kind: api.SIf, E: condition, Else: []api.Stmt{returned()}}},
		"while":        {3, true, api.Stmt{Kind: api.SWhile, E: condition}},
		"return":       {1, true, returned()},
		"show":         {2, true, show(input())},
		"fail":         {2, true, api.Stmt{Kind: api.SFail, E: []api.Expr{input()}}},
		"do":           {1, false, api.Stmt{Kind: api.SDo, E: []api.Expr{{Kind: api.ECall, Name: "g"}}}},
		"do, dropped":  {2, false, api.Stmt{Kind: api.SDo, E: []api.Expr{{Kind: api.ECall, Name: "h"}}}},
		"and":          {6, false, show(bin(api.BAnd, truths, truths))},
		"or":           {6, false, show(bin(api.BOr, truths, truths))},
	} {
		body := append(times((code.MaxCode-1)/c.size, c.of), times((code.MaxCode-1)%c.size, returned())...)
		f := decl("f", api.TNone, body...)
		f.Params = []api.Param{{Name: "a", Type: api.TInt}, {Name: "b", Type: api.TBool}}
		m := made(variable("v"), decl("g", api.TNone), decl("h", api.TInt, returned(input())), f)
		if c.fits {
			is(t, what+", as many as there may be", len(objectFn(objectOf(t, m), "f").Fn.Code), code.MaxCode)
			isRight(t, what+", as many as there may be", m, nil)
		} else {
			refused(t, what+", as many as there may be", m, nil, 0, api.ErrBig)
		}
		m.Decls[3].Body = append(body, returned())
		refused(t, what+", one more", m, nil, 3, api.ErrBig)
	}
}

// A try has a slot of its own for what it catches, so that there are few of them; nor is one needed that is long.
func TestMaxCodeByTry(t *testing.T) {
	try := func(inside int) api.Decl {
		// try, untry, jump, put, and the return behind the Body.
		return decl("f", api.TNone, api.Stmt{Kind: api.STry, Body: times(inside/2, show(input())), Name: "e", Else: times(inside%2, returned())})
	}
	m := made(variable("v"), try(4091))
	l, e := gen.Code(m, nil, "f")
	is(t, "as many as there may be", fmt.Sprint(len(l), int(e)), "4096 0")
	isRight(t, "as many as there may be", m, nil)
	refused(t, "one more", made(variable("v"), try(4092)), nil, 1, api.ErrBig)
}

// sized: a module whose object has just so many bytes, and no function of too many instructions; with calls, variables, or neither.
func sized(t *testing.T, bytes int, calls bool) api.Module {
	t.Helper()
	m := made(variable("v"), decl("f", api.TNone), decl("g", api.TNone))
	f, g := &m.Decls[1], &m.Decls[2]
	if calls {
		f.Body = times(300, api.Stmt{Kind: api.SSet, Name: "v", E: []api.Expr{{Kind: api.ECall, Name: "h"}}})
		m.Decls = append(m.Decls, decl("h", api.TInt, returned(input())))
		f, g = &m.Decls[1], &m.Decls[2]
	}
	b, e := object.Pack(objectOf(t, m))
	room := bytes - len(b)
	if e != api.OK || room < 0 {
		t.Fatalf("no room: %v %d", e, room)
	}
	// A show of an int has 11 bytes, a return one.
	f.Body = append(f.Body, times(room/11, show(lit(num(7))))...)
	g.Body = times(room%11, returned())
	return m
}

func TestObjectOfMaxObjectBytes(t *testing.T) {
	for _, calls := range []bool{false, true} {
		for _, bytes := range []int{16000, 16383, 16384} {
			m := sized(t, bytes, calls)
			o := objectOf(t, m)
			b, e := object.Pack(o)
			is(t, "bytes", fmt.Sprint(len(b), int(e)), fmt.Sprint(bytes, 0))
			isRight(t, fmt.Sprint(bytes, " bytes"), m, nil)
		}
		for _, bytes := range []int{16385, 16386, 17000, 20000} {
			refused(t, fmt.Sprint(bytes, " bytes"), sized(t, bytes, calls), nil, 0, api.ErrBig)
		}
	}
}

// Each function is small enough, and all of them together are too great; or the variables' and Relocs' names are.
func TestObjectOfMaxObjectBytesInMany(t *testing.T) {
	long := strings.Repeat("n", 30)
	m := made()
	m.Name = strings.Repeat("m", api.MaxName)
	for at := range 2 {
		m.Decls = append(m.Decls, variable(fmt.Sprint(long, at)))
	}
	sets := func(n int) []api.Stmt {
		return times(n, api.Stmt{Kind: api.SSet, Name: long + "0", E: []api.Expr{input()}})
	}
	for at := range 20 {
		m.Decls = append(m.Decls, decl(fmt.Sprint("f", at), api.TNone, sets(9)...))
	}
	isRight(t, "as they are", m, nil)
	for at := range 20 {
		m.Decls[2+at].Body = sets(11)
	}
	refused(t, "more of them", m, nil, 0, api.ErrBig)
	// A function of too many instructions comes ahead of it.
	m.Decls = append(m.Decls, counting("last", 4097))
	refused(t, "and one that is too long", m, nil, 22, api.ErrBig)
	m.Decls[10] = counting("some", 4097)
	refused(t, "and one ahead of that", m, nil, 10, api.ErrBig)
}

// Few instructions, but each a great one: too many bytes in one function.
func TestOneFunctionOfTooManyBytes(t *testing.T) {
	m := made(variable("v"), variable("w"), decl("f", api.TNone, times(2047, show(lit(num(7))))...))
	refused(t, "one function", m, nil, 0, api.ErrBig)
}

// nested: calls within one another, as deep as asked for, each of them with the most that can be on the stack ahead of it.
func nested(depth int) api.Expr {
	last := lit(truth(1))
	if depth > 0 {
		last = bin(api.BEq, lit(num(1)), bin(api.BAdd, lit(num(2)), bin(api.BMul, lit(num(3)), nested(depth-1))))
	}
	kids := append(times(7, lit(num(4))), last)
	return api.Expr{Kind: api.ECall, Name: "f", Kids: kids}
}

func TestTheGreatestStack(t *testing.T) {
	f := decl("f", api.TInt)
	for at := range 8 {
		f.Params = append(f.Params, api.Param{Name: fmt.Sprint("p", at), Type: api.TInt})
	}
	f.Params[7].Type = api.TBool
	whole := func(depth int) api.Module {
		f.Body = []api.Stmt{returned(bin(api.BAdd, lit(num(5)), bin(api.BMul, lit(num(6)), nested(depth))))}
		return made(variable("v"), f)
	}
	m := whole(30)
	isRight(t, "as deep as there may be", m, nil)
	o := objectOf(t, m)
	p := frameOf(t, m)
	most := 0
	for at := range o.Fns[0].Fn.Code {
		stack, tries, there := code.Shape(closed(o, 0, m, nil), p, at)
		is(t, "each instruction is come to", fmt.Sprint(there, tries), "true 0")
		most = max(most, len(stack))
	}
	is(t, "values on the stack", most, 2+30*10+8)
	refused(t, "one deeper", whole(31), nil, 0, api.ErrDeep)
}

func TestTheMostTries(t *testing.T) {
	tries := func(n int) api.Module {
		body := []api.Stmt{show(input())}
		for at := range n {
			body = []api.Stmt{{Kind: api.STry, Body: body, Name: fmt.Sprint("e", at), Else: []api.Stmt{show(input())}}}
		}
		return made(decl("f", api.TNone, body...))
	}
	m := tries(31)
	isRight(t, "as many as there may be", m, nil)
	o := objectOf(t, m)
	_, open, there := code.Shape(o.Fns[0].Fn, frameOf(t, m), 31)
	is(t, "open tries", fmt.Sprint(open, there), "31 true")
	refused(t, "one more", tries(32), nil, 0, api.ErrDeep)
	// In the block of a catch no try is open.
	body := []api.Stmt{show(input())}
	for at := range 31 {
		body = []api.Stmt{{Kind: api.STry, Name: fmt.Sprint("e", at), Else: body}}
	}
	isRight(t, "within catches", made(decl("f", api.TNone, body...)), nil)
}

func TestTheMostLocals(t *testing.T) {
	m := module(t, "fn f(a: bool, b: float) { "+letsOf(api.MaxLocals-3)+" try { } catch e { show e; show a; show x60; } }")
	o := objectOf(t, m)
	is(t, "how many", len(o.Fns[0].Fn.Locals), api.MaxLocals)
	is(t, "the last ones", strings.HasSuffix(listing(o, "f"), "; push 60; put 62; try 125; untry; jump 132; put 63; get 63; show; get 0; show; get 62; show; return"), true)
	isRight(t, "as many as there may be", m, nil)
}

// As many declarations as there may be, and each named from each other one.
func TestTheMostDeclarations(t *testing.T) {
	m := made()
	for at := range 32 {
		m.Decls = append(m.Decls, variable(fmt.Sprint("v", at)))
	}
	for at := range 32 {
		next, other := fmt.Sprint("f", (at+1)%32), fmt.Sprint("v", 31-at)
		m.Decls = append(m.Decls, decl(fmt.Sprint("f", at), api.TInt, returned(bin(api.BAdd, api.Expr{Kind: api.EName, Name: other}, api.Expr{Kind: api.ECall, Name: next}))))
	}
	o := objectOf(t, m)
	is(t, "how many", fmt.Sprint(len(o.Vars), len(o.Fns), len(o.Relocs)), "32 32 64")
	for at := range 32 {
		is(t, "Relocs", fmt.Sprint(o.Relocs[2*at], o.Relocs[2*at+1]), fmt.Sprintf("{%d 0 1 m v%d} {%d 1 2 m f%d}", at, 31-at, at, (at+1)%32))
	}
	isRight(t, "at the limit", m, nil)
	m.Decls = append(m.Decls, variable("more"))
	refused(t, "one more", m, nil, 0, api.ErrBig)
}

// What stands on the left may be nested without a bound.
func TestNestedToTheLeft(t *testing.T) {
	left := func(op int, e api.Expr, n int) api.Module {
		whole := e
		for range n {
			whole = bin(op, whole, e)
		}
		return made(variable("v"), decl("f", api.TNone, show(whole)))
	}
	// n + 1 inputs, n operators, show, return.
	m := left(api.BAdd, input(), 2046)
	l, e := gen.Code(m, nil, "f")
	is(t, "additions", fmt.Sprint(len(l), int(e)), "4095 0")
	isRight(t, "additions", m, nil)
	refused(t, "one more addition", left(api.BAdd, input(), 2047), nil, 1, api.ErrBig)
	refused(t, "many additions", left(api.BAdd, input(), 60000), nil, 1, api.ErrBig)
	truths := lit(truth(1))
	for _, op := range []int{api.BAnd, api.BOr} {
		isRight(t, "truths", left(op, truths, 600), nil)
		// Each has four, the innermost left one ahead of them one more; show, return.
		refused(t, "too many bytes", left(op, truths, 1023), nil, 0, api.ErrBig)
		refused(t, "one more", left(op, truths, 1024), nil, 1, api.ErrBig)
		refused(t, "many truths", left(op, truths, 60000), nil, 1, api.ErrBig)
	}
}

// Blocks of many statements, and each of them with blocks.
func TestManyStatements(t *testing.T) {
	refused(t, "one block", made(variable("v"), decl("f", api.TNone, times(1<<20, returned())...)), nil, 1, api.ErrBig)
	block := times(1<<10, returned())
	nest := times(1<<10, api.Stmt{Kind: api.SIf, E: []api.Expr{lit(truth(1))}, Body: block, Else: block})
	refused(t, "blocks within a block", made(variable("v"), decl("f", api.TNone, nest...)), nil, 1, api.ErrBig)
}
