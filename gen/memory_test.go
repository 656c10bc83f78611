package gen_test

import (
	"fmt"
	"reflect"
	"sync"
	"testing"

	"foundry/api"
	"foundry/code"
	"foundry/gen"
	"foundry/object"
)

func roomyExprs(l []api.Expr) []api.Expr {
	l = spared(l, api.Expr{Kind: api.EName, Name: "spare"})
	for at := range l {
		l[at].Kids = roomyExprs(l[at].Kids)
	}
	return l
}

func roomyStmts(l []api.Stmt) []api.Stmt {
	l = spared(l, api.Stmt{Kind: api.SLet, Name: "spare"})
	for at := range l {
		s := &l[at]
		s.E, s.Body, s.Else = roomyExprs(s.E), roomyStmts(s.Body), roomyStmts(s.Else)
	}
	return l
}

// roomyModule: the module in memory of its own, with spare room in each list.
func roomyModule(m api.Module) api.Module {
	m.Imports = spared(m.Imports, "spare")
	m.Decls = spared(m.Decls, api.Decl{Kind: api.DConst, Export: true, Name: "spare", Type: api.TInt})
	for at := range m.Decls {
		d := &m.Decls[at]
		d.Params, d.E, d.Body = spared(d.Params, api.Param{Name: "spare", Type: 77}), roomyExprs(d.E), roomyStmts(d.Body)
	}
	return m
}

func roomyIfaces(l []api.Iface) []api.Iface {
	l = spared(l, showing("spare", constant("Y", num(7))))
	for at := range l {
		items := spared(l[at].Items, constant("spare", num(7)))
		for i := range items {
			items[i].Params = spared(items[i].Params, 77)
		}
		l[at].Items = items
	}
	return l
}

// anyFunction: the name of a function of the module.
func anyFunction(m api.Module) string {
	for _, d := range m.Decls {
		if d.Kind == api.DFn {
			return d.Name
		}
	}
	return ""
}

// somewhat: modules that are right, and others.
func somewhat(t *testing.T, from, n uint64) []madeModule {
	l := some(t, from, n)
	mix := mixer(from)
	for at := range l {
		if at%4 == 0 {
			mix.spoil(&l[at].m)
		}
	}
	return append(l, madeModule{m: module(t, objectText), given: kAndJ()}, madeModule{m: module(t, "import k; import j;"), given: kAndJ()}, madeModule{})
}

func TestWhatIsHandedInStays(t *testing.T) {
	for at, x := range somewhat(t, 10000, 80) {
		m, l := roomyModule(x.m), roomyIfaces(x.given)
		aheadM, aheadL := wholeKey(reflect.ValueOf(m)), wholeKey(reflect.ValueOf(l))
		gen.Gen(m, l)
		gen.Code(m, l, anyFunction(m))
		gen.Frame(m, l)
		is(t, fmt.Sprint("the module ", at), wholeKey(reflect.ValueOf(m)), aheadM)
		is(t, fmt.Sprint("the interfaces ", at), wholeKey(reflect.ValueOf(l)), aheadL)
	}
}

// Nothing of what is handed out is anybody else's: what is written into it, or into what was handed in, nobody sees.
func TestWhatIsHandedOutIsNew(t *testing.T) {
	for at, x := range somewhat(t, 11000, 80) {
		m, l, name := roomyModule(x.m), roomyIfaces(x.given), anyFunction(x.m)
		aheadM, aheadL := wholeKey(reflect.ValueOf(m)), wholeKey(reflect.ValueOf(l))
		wantObject, wantCode, wantFrame := generated(m, l...), coded(m, l, name), framed(m, l...)
		type answers struct {
			O object.Object
			L []code.Ins
			P code.Frame
		}
		ask := func() (a answers, place int, e api.Errno) {
			a.O, place, e = gen.Gen(m, l)
			a.L, _ = gen.Code(m, l, name)
			a.P, _ = gen.Frame(m, l)
			return a, place, e
		}
		what := fmt.Sprint("module ", at)
		one, place, e := ask()
		other, _, _ := ask()
		both := struct{ One, Other answers }{one, other}
		// All lists of all six answers are apart.
		isNew(t, what, &both)
		is(t, what+": the module", wholeKey(reflect.ValueOf(m)), aheadM)
		is(t, what+": the interfaces", wholeKey(reflect.ValueOf(l)), aheadL)
		is(t, what+": asked again", generated(m, l...)+coded(m, l, name)+framed(m, l...), wantObject+wantCode+wantFrame)
		third, _, _ := ask()
		scribble(&m)
		scribble(&l)
		is(t, what+": Gen, with what was handed in written over", stops(third.O, place, e), wantObject)
		is(t, what+": Code likewise", fmt.Sprint(opsText(third.L), " "), wantCode[:len(opsText(third.L))+1])
		is(t, what+": Frame likewise", frameKey(third.P, e), wantFrame)
	}
}

// A list without an element may be nil or empty.
func TestEmptyLists(t *testing.T) {
	truths := []api.Expr{lit(truth(1))}
	bare := made(decl("f", api.TNone, returned(), api.Stmt{Kind: api.SIf, E: truths}, api.Stmt{Kind: api.SWhile, E: truths}, api.Stmt{Kind: api.STry, Name: "e"}))
	full := made(api.Decl{Kind: api.DFn, Name: "f", Params: []api.Param{}, E: []api.Expr{}, Body: []api.Stmt{
		{Kind: api.SReturn, E: []api.Expr{}, Body: []api.Stmt{}, Else: []api.Stmt{}},
		{Kind: api.SIf, E: truths, Body: []api.Stmt{}, Else: []api.Stmt{}},
		{Kind: api.SWhile, E: truths, Body: []api.Stmt{}, Else: []api.Stmt{}},
		{Kind: api.STry, Name: "e", E: []api.Expr{}, Body: []api.Stmt{}, Else: []api.Stmt{}},
	}})
	full.Imports = []string{}
	is(t, "nil", listing(objectOf(t, bare), "f"), "return; push true; unless 3; push true; unless 6; jump 3; try 9; untry; jump 10; put 0; return")
	is(t, "empty", generated(full, []api.Iface{}...), generated(bare))
	is(t, "Frame", framed(full, []api.Iface{}...), framed(bare))
	is(t, "no declarations", generated(api.Module{Name: "m", Decls: []api.Decl{}}), generated(api.Module{Name: "m"}))
	k := api.Iface{Name: "k", Items: []api.Item{{Kind: api.DFn, Name: "g", Params: []int{}}}}
	is(t, "no parameters", framed(module(t, "import k;"), k), framed(module(t, "import k;"), showing("k", fn("g", api.TNone))))
}

// What a call answers hangs on its arguments alone: the same ones once more, or at the same time, are answered alike.
func TestAnswersAreTheSameOnceMore(t *testing.T) {
	l := somewhat(t, 12000, 60)
	tell := func(at int) string {
		x := l[at]
		return generated(x.m, x.given...) + coded(x.m, x.given, anyFunction(x.m)) + framed(x.m, x.given...)
	}
	want := make([]string, len(l))
	for at := range l {
		want[at] = tell(at)
	}
	got := make([]string, len(l))
	var workers sync.WaitGroup
	for at := range l {
		workers.Go(func() { got[at] = tell(at) })
	}
	workers.Wait()
	for at := range l {
		is(t, fmt.Sprint("at the same time ", at), got[at], want[at])
		is(t, fmt.Sprint("once more ", at), tell(at), want[at])
	}
}
