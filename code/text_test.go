package code_test

import (
	"fmt"
	"strings"
	"testing"

	"foundry/api"
	"foundry/code"
	"foundry/floats"
)

func TestExamplesOfTexts(t *testing.T) {
	is(t, "push", code.Text(push(float(1.5))), "push 0x1.8p+0")
	is(t, "bin", code.Text(code.Ins{Op: 7, N: api.BRem}), "bin %")
	is(t, "unless", code.Text(code.Ins{Op: 9, N: 7}), "unless 7")
}

// F14.2: Text

func TestText(t *testing.T) {
	for _, c := range []struct {
		i    code.Ins
		want string
	}{
		{push(num(0)), "push 0"}, {push(num(-1)), "push -1"}, {push(num(-1 << 63)), "push -9223372036854775808"}, {push(num(1<<63 - 1)), "push 9223372036854775807"},
		{push(float(0)), "push 0x0p+0"}, {push(api.Value{Type: api.TFloat, Bits: 1 << 63}), "push -0x0p+0"}, {push(api.Value{Type: api.TFloat, Bits: floats.NaN}), "push nan"},
		{push(api.Value{Type: api.TFloat, Bits: 0xfff0000000000000}), "push -inf"}, {push(truth(true)), "push true"}, {push(truth(false)), "push false"},
		{code.Ins{Op: 2}, "get 0"}, {code.Ins{Op: 2, N: 255}, "get 255"}, {code.Ins{Op: 3, N: 10}, "put 10"},
		{code.Ins{Op: 4, N: 65535}, "load 65535"}, {code.Ins{Op: 5, N: 258}, "store 258"},
		{code.Ins{Op: 6, N: api.UNeg}, "un neg"}, {code.Ins{Op: 6, N: api.UNot}, "un not"}, {code.Ins{Op: 6, N: api.UInt}, "un int"}, {code.Ins{Op: 6, N: api.UFloat}, "un float"},
		{code.Ins{Op: 7, N: api.BAdd}, "bin +"}, {code.Ins{Op: 7, N: api.BSub}, "bin -"}, {code.Ins{Op: 7, N: api.BMul}, "bin *"}, {code.Ins{Op: 7, N: api.BDiv}, "bin /"},
		{code.Ins{Op: 7, N: api.BEq}, "bin =="}, {code.Ins{Op: 7, N: api.BNe}, "bin !="}, {code.Ins{Op: 7, N: api.BLt}, "bin <"}, {code.Ins{Op: 7, N: api.BLe}, "bin <="},
		{code.Ins{Op: 7, N: api.BGt}, "bin >"}, {code.Ins{Op: 7, N: api.BGe}, "bin >="},
		{code.Ins{Op: 8}, "jump 0"}, {code.Ins{Op: 8, N: 4096}, "jump 4096"}, {code.Ins{Op: 9, N: 1}, "unless 1"}, {code.Ins{Op: 10, N: 100}, "call 100"},
		{code.Ins{Op: 11}, "return"}, {code.Ins{Op: 12}, "show"}, {code.Ins{Op: 13}, "fail"}, {code.Ins{Op: 14}, "input"},
		{code.Ins{Op: 15, N: 30}, "try 30"}, {code.Ins{Op: 16}, "untry"}, {code.Ins{Op: 17}, "drop"},
	} {
		is(t, fmt.Sprintf("%+v", c.i), code.Text(c.i), c.want)
	}
	for _, i := range rightIns() {
		is(t, fmt.Sprintf("%+v", i), code.Text(i), modelText(i))
	}
}

func TestTextOfWhatIsNotRight(t *testing.T) {
	for _, i := range wrongIns() {
		is(t, fmt.Sprintf("%+v", i), code.Text(i), "")
	}
}

// F14.2: Texts

func TestTexts(t *testing.T) {
	is(t, "none", code.Texts(nil), "")
	is(t, "an empty list", code.Texts([]code.Ins{}), "")
	is(t, "one", code.Texts(asm("return")), "0 return\n")
	is(t, "some", code.Texts(asm("push true; unless 3; push 1; return")), "0 push true\n1 unless 3\n2 push 1\n3 return\n")
	mixed := []code.Ins{{Op: 11}, {Op: 18}, {Op: 6, N: 5}, {Op: 17}}
	is(t, "some that are not right", code.Texts(mixed), "0 return\n1 \n2 \n3 drop\n")
	is(t, "one that is not right", code.Texts([]code.Ins{{}}), "0 \n")
	var want strings.Builder
	all := append(rightIns(), wrongIns()...)
	for at, i := range all {
		text := ""
		if modelRight(i) {
			text = modelText(i)
		}
		fmt.Fprintf(&want, "%d %s\n", at, text)
	}
	is(t, "all", code.Texts(all), want.String())
	// No count of instructions is asked for.
	long := code.Texts(many(code.MaxCode+2, "drop"))
	is(t, "more than MaxCode", strings.HasSuffix(long, "\n4096 drop\n4097 drop\n"), true)
}

// P1404: texts

func TestTextsAreUnlike(t *testing.T) {
	seen := map[string]code.Ins{}
	hold := func(i code.Ins) {
		text := code.Text(i)
		if other, there := seen[text]; there && other != i {
			t.Errorf("%q is the text of %+v and of %+v", text, other, i)
		}
		if text == "" {
			t.Errorf("%+v has no text", i)
		}
		seen[text] = i
	}
	for op := 2; op <= lastOp; op++ {
		for n := opRows[op].least; n <= opRows[op].most; n++ {
			hold(code.Ins{Op: op, N: n})
		}
	}
	m := mixer(1404)
	for _, v := range rightValues() {
		hold(push(v))
	}
	for bits := range uint64(2000) {
		for _, v := range []api.Value{{Type: api.TInt, Bits: bits}, {Type: api.TFloat, Bits: bits}, {Type: api.TInt, Bits: bits << 52}, {Type: api.TFloat, Bits: bits << 52}, {Type: api.TInt, Bits: m.next()}, {Type: api.TFloat, Bits: floats.Canon(m.next())}} {
			if code.Right(push(v)) {
				hold(push(v))
			}
		}
	}
}

func TestTextsOfUnlikeListsAreUnlike(t *testing.T) {
	seen := map[string]string{}
	m := mixer(14040)
	for range 5000 {
		var l []code.Ins
		for range m.below(3) {
			l = append(l, pick(&m, rightIns()))
		}
		text, one := code.Texts(l), key(l)
		if other, there := seen[text]; there && other != one {
			t.Errorf("%q is the text of %s and of %s", text, other, one)
		}
		seen[text] = one
	}
}
