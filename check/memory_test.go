package check_test

import (
	"fmt"
	"reflect"
	"testing"

	"foundry/api"
	"foundry/check"
)

// What is handed in stays as it is, spare room too; what is handed out is new, and nothing of it is kept.
func TestCheckSharesNothing(t *testing.T) {
	for seed := range uint64(240) {
		x := made(95000+seed, []int{0, 80}[seed%2])
		m, l := roomyModule(x.m), roomyIfaces(x.given)
		aheadM, aheadL := wholeKey(reflect.ValueOf(m)), wholeKey(reflect.ValueOf(l))
		want := checked(x.m, x.given...)
		first, at, code := check.Check(m, l)
		second, _, _ := check.Check(m, l)
		what := fmt.Sprint("seed ", seed)
		is(t, what, stops(first, at, code), want)
		isNew(t, what, &first)
		is(t, what+": the module", wholeKey(reflect.ValueOf(m)), aheadM)
		is(t, what+": the interfaces", wholeKey(reflect.ValueOf(l)), aheadL)
		is(t, what+": the other answer", stops(second, at, code), want)
		is(t, what+": asked again", checked(m, l...), want)
		// What is handed in is written over behind the call.
		third, _, _ := check.Check(m, l)
		scribble(&m)
		scribble(&l)
		is(t, what+": written over", stops(third, at, code), want)
	}
}

func TestTypeAndEndsLeaveWhatIsHandedIn(t *testing.T) {
	for seed := range uint64(120) {
		x := made(97000+seed, 0).outer()
		x.astrayIn = 15
		e := roomyExprs(one(x.expr(x.below(4), 3)))
		m, l := roomyModule(x.m), roomyIfaces(x.given)
		ahead := wholeKey(reflect.ValueOf(e)) + wholeKey(reflect.ValueOf(m)) + wholeKey(reflect.ValueOf(l))
		first := typed(m, l, e[0])
		for _, d := range m.Decls {
			is(t, "Ends", check.Ends(d.Body), modelEnds(d.Body))
		}
		is(t, fmt.Sprint("seed ", seed), wholeKey(reflect.ValueOf(e))+wholeKey(reflect.ValueOf(m))+wholeKey(reflect.ValueOf(l)), ahead)
		is(t, fmt.Sprint("seed ", seed, ", asked again"), typed(m, l, e[0]), first)
	}
}

// A list without an element may be nil or empty.
func TestEmptyLists(t *testing.T) {
	bare := api.Module{Name: "m", Decls: []api.Decl{{Kind: api.DFn, Name: "f", Body: []api.Stmt{{Kind: api.SReturn}, {Kind: api.SIf, E: one(expr(t, "true"))}}}}}
	full := api.Module{Name: "m", Imports: []string{}, Decls: []api.Decl{{
		Kind: api.DFn, Name: "f", Params: []api.Param{}, E: []api.Expr{},
		Body: []api.Stmt{{Kind: api.SReturn, E: []api.Expr{}, Body: []api.Stmt{}, Else: []api.Stmt{}}, {Kind: api.SIf, E: one(expr(t, "true")), Body: []api.Stmt{}, Else: []api.Stmt{}}},
	}}}
	is(t, "nil", codeOf(bare), api.OK)
	is(t, "empty", checked(full, []api.Iface{}...), checked(bare))
	is(t, "nothing at all", codeOf(api.Module{Name: "m", Decls: []api.Decl{}}), api.OK)
}

// Two answers, one after the other or with others between, hang on nothing that was asked ahead.
func TestCheckKeepsNothing(t *testing.T) {
	var want []string
	for seed := range uint64(60) {
		x := made(98000+seed, 60)
		want = append(want, checked(x.m, x.given...))
	}
	for seed := range uint64(60) {
		x := made(98000+59-seed, 60)
		is(t, fmt.Sprint("seed ", seed), checked(x.m, x.given...), want[59-seed])
	}
}
