package code_test

import (
	"fmt"
	"math"
	"testing"

	"foundry/api"
	"foundry/code"
)

func TestLimits(t *testing.T) {
	is(t, "MaxCode", code.MaxCode, 4096)
	is(t, "MaxStack", code.MaxStack, 512)
	is(t, "MaxTries", code.MaxTries, 32)
}

// F14.1: Right

func TestRightOfEachOperandAtItsBounds(t *testing.T) {
	for op := 1; op <= lastOp; op++ {
		r, i := opRows[op], code.Ins{Op: op}
		if op == 1 {
			i.V = num(7)
		}
		for _, n := range []int{r.least, (r.least + r.most) / 2, r.most} {
			i.N = n
			is(t, fmt.Sprintf("%+v", i), code.Right(i), true)
		}
		for _, n := range []int{r.least - 1, r.most + 1, -1, 65536, 1 << 32, 1<<32 + r.least, math.MinInt, math.MaxInt} {
			i.N = n
			is(t, fmt.Sprintf("%+v", i), code.Right(i), false)
		}
	}
}

func TestRightOfOperators(t *testing.T) {
	for n := -3; n < 300; n++ {
		is(t, fmt.Sprint("un ", n), code.Right(code.Ins{Op: 6, N: n}), n >= api.UNeg && n <= api.UFloat)
		is(t, fmt.Sprint("bin ", n), code.Right(code.Ins{Op: 7, N: n}), n >= api.BAdd && n <= api.BGe)
	}
	is(t, "&& is no operator of bin", code.Right(code.Ins{Op: 7, N: api.BAnd}), false)
	is(t, "|| is no operator of bin", code.Right(code.Ins{Op: 7, N: api.BOr}), false)
}

func TestRightOfValues(t *testing.T) {
	for _, v := range rightValues() {
		is(t, fmt.Sprint("push ", v), code.Right(push(v)), true)
	}
	for _, v := range wrongValues() {
		is(t, fmt.Sprint("push ", v), code.Right(push(v)), false)
	}
	for op := 2; op <= lastOp; op++ {
		for _, v := range append(rightValues(), wrongValues()[1:]...) {
			i := code.Ins{Op: op, N: opRows[op].least, V: v}
			is(t, fmt.Sprintf("%+v", i), code.Right(i), false)
			i.V = api.Value{}
			is(t, fmt.Sprintf("%+v", i), code.Right(i), true)
		}
	}
}

func TestRightOfOps(t *testing.T) {
	for _, op := range strangeOps() {
		for _, i := range []code.Ins{{Op: op}, {Op: op, N: 1}, {Op: op, V: num(1)}} {
			is(t, fmt.Sprintf("%+v", i), code.Right(i), false)
		}
	}
	for op := -3; op < 300; op++ {
		some := code.Right(code.Ins{Op: op}) || code.Right(code.Ins{Op: op, N: 1}) || code.Right(code.Ins{Op: op, V: num(1)})
		is(t, fmt.Sprint("Op ", op), some, op >= 1 && op <= lastOp)
	}
}

func TestRightOfAllLists(t *testing.T) {
	for _, i := range rightIns() {
		is(t, fmt.Sprintf("%+v", i), code.Right(i), true)
	}
	for _, i := range wrongIns() {
		is(t, fmt.Sprintf("%+v", i), code.Right(i), false)
	}
}

// F14.1: Size

func TestSize(t *testing.T) {
	sizes := []int{1: 10, 2: 2, 3: 2, 4: 3, 5: 3, 6: 2, 7: 2, 8: 3, 9: 3, 10: 3, 11: 1, 12: 1, 13: 1, 14: 1, 15: 3, 16: 1, 17: 1}
	for op := -5; op < 600; op++ {
		want := 0
		if op >= 1 && op < len(sizes) {
			want = sizes[op]
		}
		is(t, fmt.Sprint("Op ", op), code.Size(code.Ins{Op: op}), want)
		// It hangs on the Op alone.
		is(t, fmt.Sprint("Op ", op, ", else not right"), code.Size(code.Ins{Op: op, N: math.MinInt, V: api.Value{Type: 9, Bits: 9}}), want)
	}
	for _, op := range strangeOps() {
		is(t, fmt.Sprint("Op ", op), code.Size(code.Ins{Op: op, N: 1, V: num(1)}), 0)
	}
}

// F14.3: Patch

func patched(l []code.Ins, at, n int) string {
	p, e := code.Patch(l, at, n)
	return fmt.Sprint(key(p), int(e))
}

func TestPatch(t *testing.T) {
	l := asm("push 1; jump 0; un neg; return; call 7")
	is(t, "jump 0 to 65535", patched(l, 1, 65535), key(asm("push 1; jump 65535; un neg; return; call 7"))+"0")
	is(t, "neg to float", patched(l, 2, api.UFloat), key(asm("push 1; jump 0; un float; return; call 7"))+"0")
	is(t, "the last one", patched(l, 4, 258), key(asm("push 1; jump 0; un neg; return; call 258"))+"0")
	is(t, "the same N", patched(l, 4, 7), key(l)+"0")
	is(t, "0 where there is none", patched(l, 3, 0), key(l)+"0")
	is(t, "0 of push", patched(l, 0, 0), key(l)+"0")
	wrong := key([]code.Ins{}) + fmt.Sprint(int(api.ErrCode))
	for _, c := range [][2]int{{0, 1}, {0, -1}, {1, -1}, {1, 65536}, {2, 0}, {2, 5}, {3, 1}, {3, -1}, {4, 65536}, {4, math.MinInt}, {4, math.MaxInt}} {
		is(t, fmt.Sprint("Patch ", c), patched(l, c[0], c[1]), wrong)
	}
	none := key([]code.Ins{}) + fmt.Sprint(int(api.ErrArg))
	for _, at := range []int{-1, 5, 6, 4096, math.MinInt, math.MaxInt} {
		is(t, fmt.Sprint("at ", at), patched(l, at, 0), none)
		// The place is asked first.
		is(t, fmt.Sprint("at ", at, " with a wrong N"), patched(l, at, -1), none)
		is(t, fmt.Sprint("at ", at, " of none"), patched(nil, at, 0), none)
	}
	is(t, "none", patched(nil, 0, 0), none)
	is(t, "an empty list with spare room", patched(l[:0], 0, 0), none)
}

func TestPatchOfEachInstruction(t *testing.T) {
	all := append(rightIns(), wrongIns()...)
	for _, i := range all {
		// Only the one at the place has to be right.
		l := []code.Ins{{Op: 99, N: -1}, i, {Op: 11, N: 1}}
		ns := []int{math.MinInt, -1, 0, 1, 2, 3, 4, 5, 10, 11, 12, 254, 255, 256, 4096, 65535, 65536, 1 << 32, math.MaxInt, i.N}
		for _, n := range ns {
			want := []code.Ins{l[0], {Op: i.Op, N: n, V: i.V}, l[2]}
			text := key(want) + fmt.Sprint(int(api.OK))
			if !modelRight(want[1]) {
				text = key([]code.Ins{}) + fmt.Sprint(int(api.ErrCode))
			}
			is(t, fmt.Sprintf("%+v with %d", i, n), patched(l, 1, n), text)
		}
	}
}

func TestPatchOfManyInstructions(t *testing.T) {
	// No count of instructions is asked for.
	l := many(code.MaxCode+10, "jump 0")
	p, e := code.Patch(l, code.MaxCode+9, 3)
	is(t, "many", fmt.Sprint(len(p), p[code.MaxCode+9].N, p[code.MaxCode+8].N, int(e)), fmt.Sprint(code.MaxCode+10, 3, 0, 0))
}
