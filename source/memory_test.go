package source_test

import (
	"fmt"
	"reflect"
	"slices"
	"sync"
	"testing"

	"foundry/api"
	"foundry/source"
)

func roomyExprs(l []api.Expr) []api.Expr {
	l = spared(l, api.Expr{Kind: api.EName, Name: "spare"})
	for at := range l {
		l[at].Kids = roomyExprs(l[at].Kids)
	}
	return l
}

func roomyStmts(l []api.Stmt) []api.Stmt {
	l = spared(l, api.Stmt{Kind: api.SLet, Name: "spare"})
	for at := range l {
		s := &l[at]
		s.E, s.Body, s.Else = roomyExprs(s.E), roomyStmts(s.Body), roomyStmts(s.Else)
	}
	return l
}

// roomy: the modules in memory of their own, with spare room in each list.
func roomy(l []api.Module) []api.Module {
	l = spared(l, api.Module{Name: "main"})
	for at := range l {
		m := &l[at]
		m.Imports = spared(m.Imports, "spare")
		m.Decls = spared(m.Decls, api.Decl{Kind: api.DConst, Export: true, Name: "spare", Type: api.TInt})
		for i := range m.Decls {
			d := &m.Decls[i]
			d.Params, d.E, d.Body = spared(d.Params, api.Param{Name: "spare", Type: 77}), roomyExprs(d.E), roomyStmts(d.Body)
		}
	}
	return l
}

// P1301: the modules are copied, and left as they are.
func TestNewCopies(t *testing.T) {
	for seed := range uint64(40) {
		l := roomy(made(40000 + seed))
		ahead := wholeKey(reflect.ValueOf(l))
		what := fmt.Sprint("seed ", seed)
		first, _ := source.New(l)
		second, _ := source.New(l)
		want := told(first.Run([]int64{1, 2, 3}, 2000))
		is(t, what+": the modules", wholeKey(reflect.ValueOf(l)) == ahead, true)
		scribble(&l)
		is(t, what+": written over", told(first.Run([]int64{1, 2, 3}, 2000)), want)
		is(t, what+": written over ahead of its first run", told(second.Run([]int64{1, 2, 3}, 2000)), want)
	}
}

// Each part of a module changed behind New, by what would be right, too.
func TestModulesThatAreChangedBehindNew(t *testing.T) {
	l := modules(t, "import k; const C: int = 1; var v: int = 2; fn f(a: int): int { show a + C; return a; } fn main(): int { let x = v; if x > 1 { show k.N; } while x > 0 { x = x - 1; } try { fail 3; } catch e { show e; } k.g(); return f(7); }",
		"module k; export const N: int = 5; var w: int = 6; export fn g() { show w; }")
	p, _ := source.New(l)
	want := "5 3 6 8 | halted 7 | 20"
	is(t, "first", told(p.Run(nil, 100)), want)
	number := func(n uint64) []api.Expr {
		return []api.Expr{{Kind: api.ELit, Value: api.Value{Type: api.TInt, Bits: n}}}
	}
	l[1].Name, l[1].Decls[0].Name = "other", "other"
	l[1].Decls[0].E[0], l[1].Decls[1].E[0] = number(50)[0], number(60)[0]
	l[0].Decls[0].E[0], l[0].Decls[1].E[0] = number(10)[0], number(20)[0]
	main := l[0].Decls[3].Body
	main[0].E[0], main[1].Body[0].E[0], main[3].Body[0].E[0], main[5].E[0].Kids[0] = number(9)[0], number(8)[0], number(7)[0], number(6)[0]
	main[2].E[0].Op, main[4].E[0].Name = api.BLt, "f"
	is(t, "changed", told(p.Run(nil, 100)), want)
	l[0].Decls[3].Body = nil
	is(t, "cut", told(p.Run(nil, 100)), want)
	_, code := source.New(l)
	is(t, "what is there now", code, api.ErrArg)
}

// Run leaves the input as it is; its trace is nobody else's.
func TestRunSharesNothing(t *testing.T) {
	for seed := range uint64(120) {
		_, p := madeProgram(t, 50000+seed)
		input := spared([]int64{4, 5, 6}, 77)
		ahead := wholeKey(reflect.ValueOf(input))
		first, o, n := p.Run(input, 2000)
		second, _, _ := p.Run(input, 2000)
		what := fmt.Sprint("seed ", seed)
		want := told(first, o, n)
		is(t, what+": the input", wholeKey(reflect.ValueOf(input)), ahead)
		scribble(&first)
		is(t, what+": the other trace", told(second, o, n), want)
		full := first[:cap(first)]
		for at := range full {
			full[at] = api.Value{Type: 9, Bits: 9}
		}
		is(t, what+": the other trace again", told(second, o, n), want)
		is(t, what+": another run", told(p.Run(input, 2000)), want)
		scribble(&input)
		is(t, what+": what is behind it", told(second, o, n), want)
	}
}

// A list without an element may be nil or empty.
func TestEmptyLists(t *testing.T) {
	value := []api.Expr{{Kind: api.ELit, Value: api.Value{Type: api.TInt, Bits: 7}}}
	truth := []api.Expr{{Kind: api.ELit, Value: api.Value{Type: api.TBool}}}
	bare := api.Module{Name: "main", Decls: []api.Decl{{Kind: api.DFn, Name: "main", Type: api.TInt, Body: []api.Stmt{
		{Kind: api.SIf, E: truth}, {Kind: api.SWhile, E: truth}, {Kind: api.STry, Name: "e"}, {Kind: api.SReturn, E: value},
	}}}}
	full := api.Module{Name: "main", Imports: []string{}, Decls: []api.Decl{{Kind: api.DFn, Name: "main", Type: api.TInt, Params: []api.Param{}, E: []api.Expr{}, Body: []api.Stmt{
		{Kind: api.SIf, E: truth, Body: []api.Stmt{}, Else: []api.Stmt{}}, {Kind: api.SWhile, E: truth, Body: []api.Stmt{}, Else: []api.Stmt{}},
		{Kind: api.STry, Name: "e", Body: []api.Stmt{}, Else: []api.Stmt{}}, {Kind: api.SReturn, E: value, Body: []api.Stmt{}},
	}}}}
	for _, m := range []api.Module{bare, full} {
		p, code := source.New([]api.Module{m})
		is(t, "New", code, api.OK)
		is(t, "nil", told(p.Run(nil, 9)), " | halted 7 | 6")
		is(t, "empty", told(p.Run([]int64{}, 9)), " | halted 7 | 6")
	}
}

// Two programs share nothing, nor do two runs of one, one after the other or at the same time.
func TestRunsBesideOneAnother(t *testing.T) {
	var programs []*source.Program
	var want []string
	for seed := range uint64(40) {
		_, p := madeProgram(t, 60000+seed)
		programs = append(programs, p, p)
		trace := told(p.Run([]int64{1, 2}, 3000))
		want = append(want, trace, trace)
	}
	for at := range slices.Backward(programs) {
		is(t, fmt.Sprint("once more ", at), told(programs[at].Run([]int64{1, 2}, 3000)), want[at])
	}
	got := make([]string, len(programs))
	var all sync.WaitGroup
	for at, p := range programs {
		all.Go(func() { got[at] = told(p.Run([]int64{1, 2}, 3000)) })
	}
	all.Wait()
	for at := range got {
		is(t, fmt.Sprint("at the same time ", at), got[at], want[at])
	}
}
