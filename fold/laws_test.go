package fold_test

import (
	"fmt"
	"slices"
	"testing"

	"foundry/api"
	"foundry/fold"
)

// P907.
func TestSumAndProductTurnedRound(t *testing.T) {
	x := mixer(907)
	check := func(a, b api.Value) {
		for _, op := range []int{api.BAdd, api.BMul} {
			is(t, fmt.Sprint("Bin ", op, a, b), bin(op, a, b), bin(op, b, a))
		}
	}
	values := allValues()
	for _, a := range values {
		for _, b := range values {
			check(a, b)
		}
	}
	for range 20000 {
		check(x.whole(), x.whole())
		check(x.float(), x.float())
	}
}

func TestQuotientAndRestMakeTheNumber(t *testing.T) {
	check := func(a, b api.Value) {
		quotient := bin(api.BDiv, a, b)
		if quotient.trap != 0 {
			return
		}
		product, rest := bin(api.BMul, quotient.value, b), bin(api.BRem, a, b)
		is(t, fmt.Sprint("traps of ", a, b), product.trap+rest.trap, 0)
		is(t, fmt.Sprint(a, b), bin(api.BAdd, rest.value, product.value), has(a))
	}
	for _, a := range wholes() {
		for _, b := range wholes() {
			check(a, b)
		}
	}
	x := mixer(97)
	for range 20000 {
		check(x.whole(), x.whole())
	}
}

// part: a part of the expression, and how the whole is with another one in its place.
type part struct {
	e   api.Expr
	put func(api.Expr) api.Expr
}

func parts(e api.Expr) []part {
	l := []part{{e, func(other api.Expr) api.Expr { return other }}}
	for at, kid := range e.Kids {
		for _, p := range parts(kid) {
			l = append(l, part{p.e, func(other api.Expr) api.Expr {
				whole := e
				whole.Kids = slices.Clone(e.Kids)
				whole.Kids[at] = p.put(other)
				return whole
			}})
		}
	}
	return l
}

func TestAPartMayBeAConstantOfItsValue(t *testing.T) {
	x := mixer(98)
	var put int
	for range 3000 {
		e, l := x.expr(4), x.consts()
		whole := eval(e, l)
		for _, p := range parts(e) {
			r := eval(p.e, l)
			// A part of an expression that is not right need not be there any more behind this.
			if r.code != api.OK || whole.code == api.ErrArg || whole.code == api.ErrName || whole.code == api.ErrBig || whole.code == api.ErrDeep {
				continue
			}
			put++
			with := append(slices.Clone(l), own("New", r.value), far("new", "New", r.value))
			is(t, fmt.Sprint(e, l), eval(p.put(name("New")), with), whole)
			is(t, fmt.Sprint(e, l), eval(p.put(farName("new", "New")), with), whole)
		}
	}
	if put < 5000 {
		t.Errorf("only %d parts", put)
	}
}

func TestConstantsThatAreNotNamedChangeNothing(t *testing.T) {
	x := mixer(99)
	for range 5000 {
		e, l := x.expr(3), x.consts()
		with := slices.Clone(l)
		for range 1 + x.below(4) {
			v := pick(&x, allValues())
			c := pick(&x, []fold.Const{own("New", v), far("k", "New", v), far("new", "A", v), own("", v), own("while", v), far("A", "k", v), own("k.A", v)})
			with = slices.Insert(with, x.below(len(with)+1), c)
		}
		is(t, fmt.Sprint(e, l, with), eval(e, with), eval(e, l))
	}
}

func TestOneCallHangsOnNoOther(t *testing.T) {
	e := expr(t, "A + 1")
	l := []fold.Const{own("A", whole(1))}
	is(t, "ahead", eval(e, l), comesTo(whole(2)))
	is(t, "without", eval(e, nil), fails(api.ErrUnknown))
	is(t, "trap", eval(expr(t, "1 / 0"), l), fails(api.ErrZero))
	is(t, "behind", eval(e, l), comesTo(whole(2)))
}
