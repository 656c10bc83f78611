package fold_test

import (
	"fmt"
	"math"
	"strings"
	"testing"

	"foundry/api"
	"foundry/floats"
	"foundry/fold"
	"foundry/tree"
)

// evalCase: a text, and what it comes to with the constants of the test.
type evalCase struct {
	text string
	want result
}

func evalAll(t *testing.T, l []fold.Const, cases []evalCase) {
	t.Helper()
	for _, c := range cases {
		is(t, c.text, eval(expr(t, c.text), l), c.want)
	}
}

func TestExamplesOfEval(t *testing.T) {
	evalAll(t, nil, []evalCase{
		{"false && 1 / 0 == 0", comesTo(truth(false))},
		{"1 / 0", fails(api.ErrZero)},
		{"k.X", fails(api.ErrUnknown)},
		{"f()", fails(api.ErrConst)},
	})
}

// P904.
func TestEvalOfEachKind(t *testing.T) {
	l := []fold.Const{own("A", whole(4)), far("k", "X", float(1.5)), own("T", truth(true))}
	evalAll(t, l, []evalCase{
		{"7", comesTo(whole(7))},
		{"0", comesTo(whole(0))},
		{"9223372036854775807", comesTo(whole(greatest))},
		{"2.5", comesTo(float(2.5))},
		{"true", comesTo(truth(true))},
		{"false", comesTo(truth(false))},
		{"A", comesTo(whole(4))},
		{"k.X", comesTo(float(1.5))},
		{"f(1)", fails(api.ErrConst)},
		{"k.f(1)", fails(api.ErrConst)},
		{"A()", fails(api.ErrConst)},
		{"k.X()", fails(api.ErrConst)},
		{"input", fails(api.ErrConst)},
		{"-A", comesTo(whole(-4))},
		{"-k.X", comesTo(float(-1.5))},
		{"!T", comesTo(truth(false))},
		{"int(k.X)", comesTo(whole(1))},
		{"float(A)", comesTo(float(4))},
		{"A + 1", comesTo(whole(5))},
		{"A - 5", comesTo(whole(-1))},
		{"A * A", comesTo(whole(16))},
		{"A / 3", comesTo(whole(1))},
		{"A % 3", comesTo(whole(1))},
		{"A == 4", comesTo(truth(true))},
		{"A != 4", comesTo(truth(false))},
		{"A < 5", comesTo(truth(true))},
		{"A <= 3", comesTo(truth(false))},
		{"A > 3", comesTo(truth(true))},
		{"A >= 5", comesTo(truth(false))},
		{"T && false", comesTo(truth(false))},
		{"T || false", comesTo(truth(true))},
		{"1 + 2 * 3 - (4 - 5)", comesTo(whole(8))},
		{"-9223372036854775807 - 1", comesTo(whole(least))},
		{"0.0 / 0.0", comesTo(bitsFloat(floats.NaN))},
		{"1.0 / -0.0", comesTo(float(math.Inf(-1)))},
		{"float(int(2.5) / 2) * k.X", comesTo(float(1.5))},
	})
}

func TestEvalOfTraps(t *testing.T) {
	evalAll(t, []fold.Const{own("L", whole(least))}, []evalCase{
		{"9223372036854775807 + 1", fails(api.ErrRange)},
		{"-L", fails(api.ErrRange)},
		{"L / -1", fails(api.ErrRange)},
		{"L % -1", comesTo(whole(0))},
		{"1 % 0", fails(api.ErrZero)},
		{"int(1.0 / 0.0)", fails(api.ErrConv)},
		{"int(0.0 / 0.0)", fails(api.ErrConv)},
		{"1 + (2 * (3 / (1 - 1)))", fails(api.ErrZero)},
		{"!(1 / 0 == 1)", fails(api.ErrZero)},
		{"float(L - 1)", fails(api.ErrRange)},
		{"-int(float(L) * 2.0)", fails(api.ErrConv)},
	})
}

func TestEvalOfOperationsThatAreNone(t *testing.T) {
	evalAll(t, nil, []evalCase{
		{"1 + 1.0", fails(api.ErrType)},
		{"1.0 % 2.0", fails(api.ErrType)},
		{"true + true", fails(api.ErrType)},
		{"true < false", fails(api.ErrType)},
		{"1 == true", fails(api.ErrType)},
		{"-true", fails(api.ErrType)},
		{"!1", fails(api.ErrType)},
		{"int(1)", fails(api.ErrType)},
		{"float(1.0)", fails(api.ErrType)},
		{"float(true)", fails(api.ErrType)},
		{"1 && true", fails(api.ErrType)},
		{"true && 1", fails(api.ErrType)},
		{"true || 1", comesTo(truth(true))},
		{"false || 1", fails(api.ErrType)},
		{"1.0 || true", fails(api.ErrType)},
	})
}

func TestEvalOfNames(t *testing.T) {
	l := []fold.Const{
		far("k", "X", whole(1)), own("X", whole(2)), far("l", "X", whole(3)),
		own("X", whole(4)), far("k", "X", float(5)), own("Y", whole(6)),
		own("W", bitsFloat(floats.NaN+1)), own("W", whole(7)),
		own("Z", whole(8)), own("Z", bitsFloat(floats.NaN+1)),
		far("k", "B", api.Value{Type: api.TBool, Bits: 2}),
		far("k", "N", api.Value{}), far("l", "V", api.Value{Type: 9, Bits: 9}),
	}
	evalAll(t, l, []evalCase{
		{"X", comesTo(whole(2))},
		{"k.X", comesTo(whole(1))},
		{"l.X", comesTo(whole(3))},
		{"m.X", fails(api.ErrUnknown)},
		{"Y", comesTo(whole(6))},
		{"k.Y", fails(api.ErrUnknown)},
		{"B", fails(api.ErrUnknown)},
		{"x", fails(api.ErrUnknown)},
		{"XX", fails(api.ErrUnknown)},
		{"k", fails(api.ErrUnknown)},
		{"W", fails(api.ErrType)},
		{"Z", comesTo(whole(8))},
		{"k.B", fails(api.ErrType)},
		{"k.N", fails(api.ErrType)},
		{"l.V", fails(api.ErrType)},
		{"X + k.X * l.X", comesTo(whole(5))},
	})
	for _, v := range wrongValues() {
		is(t, fmt.Sprint(v), eval(name("A"), []fold.Const{own("A", v)}), fails(api.ErrType))
		is(t, fmt.Sprint(v), eval(farName("k", "A"), []fold.Const{far("k", "A", v)}), fails(api.ErrType))
	}
	for _, v := range rightValues() {
		is(t, fmt.Sprint(v), eval(name("A"), []fold.Const{own("A", v)}), comesTo(v))
	}
}

func TestEvalAnswersTheFirstErrorFromTheLeft(t *testing.T) {
	evalAll(t, []fold.Const{own("W", api.Value{})}, []evalCase{
		{"x + f()", fails(api.ErrUnknown)},
		{"f() + x", fails(api.ErrConst)},
		{"input + 1 / 0", fails(api.ErrConst)},
		{"1 / 0 + input", fails(api.ErrZero)},
		{"W + x", fails(api.ErrType)},
		{"x + W", fails(api.ErrUnknown)},
		{"1 / 0 + (9223372036854775807 + 1)", fails(api.ErrZero)},
		{"(9223372036854775807 + 1) + 1 / 0", fails(api.ErrRange)},
		{"int(0.0 / 0.0) + 1 / 0", fails(api.ErrConv)},
		{"(1 + 1.0) + x", fails(api.ErrType)},
		{"x + (1 + 1.0)", fails(api.ErrUnknown)},
		{"1.0 + x", fails(api.ErrUnknown)},
		{"true + 1 / 0", fails(api.ErrZero)},
		{"!x", fails(api.ErrUnknown)},
		{"!(1 / 0)", fails(api.ErrZero)},
		{"-(true && 1 / 0 == 1)", fails(api.ErrZero)},
		{"1 / 0 == true", fails(api.ErrZero)},
	})
}

// An argument is a part of its call.
func TestEvalOfArgumentsAheadOfTheirCall(t *testing.T) {
	evalAll(t, []fold.Const{own("W", api.Value{}), own("A", whole(1))}, []evalCase{
		{"f(1 / 0)", fails(api.ErrZero)},
		{"f(A, x, 1 / 0)", fails(api.ErrUnknown)},
		{"k.f(W, x)", fails(api.ErrType)},
		{"f(g(1 / 0))", fails(api.ErrZero)},
		{"f(g(), 1 / 0)", fails(api.ErrConst)},
		{"f(A, 1.5, true)", fails(api.ErrConst)},
		{"f(false && 1 / 0 == 0)", fails(api.ErrConst)},
	})
}

func TestEvalOfAndOr(t *testing.T) {
	l := []fold.Const{own("T", truth(true)), own("F", truth(false)), own("W", api.Value{Type: api.TBool, Bits: 2})}
	for _, right := range []evalCase{
		{"1 / 0 == 0", fails(api.ErrZero)},
		{"x", fails(api.ErrUnknown)},
		{"f()", fails(api.ErrConst)},
		{"(input == 1)", fails(api.ErrConst)},
		{"W", fails(api.ErrType)},
		{"1", fails(api.ErrType)},
		{"1.5", fails(api.ErrType)},
		{"T", comesTo(truth(true))},
		{"F", comesTo(truth(false))},
	} {
		evalAll(t, l, []evalCase{
			{"F && " + right.text, comesTo(truth(false))},
			{"T || " + right.text, comesTo(truth(true))},
			{"T && " + right.text, right.want},
			{"F || " + right.text, right.want},
			{"1 && " + right.text, fails(api.ErrType)},
			{"0.0 || " + right.text, fails(api.ErrType)},
			{"W && " + right.text, fails(api.ErrType)},
			{"y && " + right.text, fails(api.ErrUnknown)},
			{"y || " + right.text, fails(api.ErrUnknown)},
			{"1 % 0 == 0 || " + right.text, fails(api.ErrZero)},
			{"F && T && " + right.text, comesTo(truth(false))},
			{"!(F && " + right.text + ")", comesTo(truth(true))},
			{"F && " + right.text + " || T", comesTo(truth(true))},
		})
	}
}

func TestEvalAsksWhetherTheExpressionIsRightAheadOfAllElse(t *testing.T) {
	for at, wrong := range wrongExprs() {
		what := fmt.Sprint("wrong expression ", at)
		is(t, what, tree.RightExpr(wrong.e), wrong.code)
		is(t, what, eval(wrong.e, nil), fails(wrong.code))
		// None of these is asked behind an error of another kind, nor where the left side decides.
		for _, left := range []api.Expr{lit(truth(false)), name("unknown"), expr(t, "1 / 0"), expr(t, "f()"), expr(t, "1 + 1.0")} {
			is(t, what, eval(binary(api.BAnd, left, wrong.e), nil), fails(wrong.code))
		}
		is(t, what, eval(binary(api.BOr, lit(truth(true)), wrong.e), nil), fails(wrong.code))
	}
}

func TestEvalAtTheDepthThatThereMayBe(t *testing.T) {
	deep := strings.Repeat("-", api.MaxDepth)
	e := expr(t, deep+"1")
	is(t, "MaxDepth", eval(e, nil), comesTo(whole(1)))
	is(t, "one more", eval(unary(api.UNeg, e), nil), fails(api.ErrDeep))
}

// What stands to the left is not nested by the grammar's count, so that such a tree may go down far.
func TestEvalOfALongChain(t *testing.T) {
	const links = 60000
	sum, truths := lit(whole(1)), lit(truth(false))
	for range links {
		sum = binary(api.BAdd, sum, name("A"))
		truths = binary(api.BOr, truths, lit(truth(false)))
	}
	is(t, "sum", eval(sum, []fold.Const{own("A", whole(2))}), comesTo(whole(1+2*links)))
	is(t, "a sum of what is unknown", eval(sum, nil), fails(api.ErrUnknown))
	is(t, "truths", eval(truths, nil), comesTo(truth(false)))
}

func TestEvalOfManyExpressions(t *testing.T) {
	x := mixer(904)
	var good, bad int
	for range 60000 {
		e, l := x.expr(1+x.below(4)), x.consts()
		got, want := eval(e, l), modelEval(e, l)
		if got != want {
			text, _ := tree.Text(e)
			t.Fatalf("%s with %v: %v, not %v", text, l, got, want)
		}
		if got.code == api.OK {
			good++
		} else {
			bad++
		}
	}
	if good < 6000 || bad < 6000 {
		t.Errorf("%d values, %d errors: too few of one", good, bad)
	}
}

func TestEvalLeavesWhatIsHandedIn(t *testing.T) {
	x := mixer(94)
	for range 3000 {
		e, l := roomyExpr(x.expr(3)), roomyConsts(x.consts())
		exprAhead, constsAhead := exprKey(e), constsKey(l)
		first := eval(e, l)
		if exprKey(e) != exprAhead || constsKey(l) != constsAhead {
			t.Fatalf("%v with %v: changed", e, l)
		}
		is(t, "asked again", eval(e, l), first)
	}
}
