package floats_test

import (
	"cmp"
	"math"
	"math/big"
	"testing"

	"foundry/api"
	"foundry/floats"
)

// P101

func TestCanonAnswersTheOneNaN(t *testing.T) {
	if floats.NaN != 0x7ff8000000000001 {
		t.Errorf("the constant is %#x", floats.NaN)
	}
	for _, a := range samples(1000) {
		want := a
		if isNaN(a) {
			want = floats.NaN
		}
		same(t, floats.Canon(a), want, "Canon", a)
	}
}

func wantClass(a uint64) int {
	switch {
	case isNaN(a):
		return 1
	case isInf(a):
		return 2
	case isZero(a):
		return 3
	case a>>52&0x7ff == 0:
		return 4
	}
	return 5
}

func TestClass(t *testing.T) {
	for _, a := range samples(1000) {
		if got := floats.Class(a); got != wantClass(a) {
			t.Errorf("Class(%#x) = %d, not %d", a, got, wantClass(a))
		}
	}
}

func TestPartsOfNamedFloats(t *testing.T) {
	for _, c := range []struct {
		a        uint64
		negative bool
		m        uint64
		e        int
	}{
		{0, false, 0, -1074},
		{negZero, true, 0, -1074},
		{1, false, 1, -1074},
		{0x800fffffffffffff, true, 1<<52 - 1, -1074},
		{0x0010000000000000, false, 1 << 52, -1074},
		{one, false, 1 << 52, -52},
		{0xbff8000000000000, true, 3 << 51, -52},
		{greatest, false, 1<<53 - 1, 971},
		{inf, false, 0, 0},
		{negInf, true, 0, 0},
		{floats.NaN, false, 0, 0},
		{0xfff8000000000000, false, 0, 0},
	} {
		negative, m, e := floats.Parts(c.a)
		if negative != c.negative || m != c.m || e != c.e {
			t.Errorf("Parts(%#x) = %v %d %d, not %v %d %d", c.a, negative, m, e, c.negative, c.m, c.e)
		}
	}
}

func TestPartsMakeTheFloat(t *testing.T) {
	for _, a := range samples(1000) {
		negative, m, e := floats.Parts(a)
		if isNaN(a) || isInf(a) {
			if negative != (sign(a) != 0 && isInf(a)) || m != 0 || e != 0 {
				t.Errorf("Parts(%#x) = %v %d %d", a, negative, m, e)
			}
			continue
		}
		class := wantClass(a)
		if class == 5 && m>>52 != 1 || class != 5 && (m>>52 != 0 || e != -1074) {
			t.Errorf("Parts(%#x) = %v %d %d: out of range", a, negative, m, e)
		}
		x := math.Ldexp(float64(m), e)
		if negative {
			x = -x
		}
		same(t, math.Float64bits(x), a, "what the Parts make", a)
	}
}

// P102

func TestArithmetic(t *testing.T) {
	pairs(5000, func(a, b uint64) {
		same(t, floats.Add(a, b), wantAdd(a, b), "Add", a, b)
		same(t, floats.Sub(a, b), wantAdd(a, b^negZero), "Sub", a, b)
		same(t, floats.Mul(a, b), wantMul(a, b), "Mul", a, b)
		same(t, floats.Div(a, b), wantDiv(a, b), "Div", a, b)
	})
}

func TestTiesGoToEven(t *testing.T) {
	half := uint64(0x3ca0000000000000) // 2^-53, half of what 1's last bit stands for
	same(t, floats.Add(one, half), one, "Add", one, half)
	same(t, floats.Add(one+1, half), one+2, "Add", one+1, half)
	same(t, floats.Add(one, half+1), one+1, "Add", one, half+1)
	same(t, floats.Mul(1, 0x3fe0000000000000), 0, "Mul", 1)
	same(t, floats.Mul(3, 0x3fe0000000000000), 2, "Mul", 3)
	same(t, floats.Div(1, two), 0, "Div", 1)
	same(t, floats.Div(negZero|1, two), negZero, "Div", negZero|1)
	step := uint64(0x7ca0000000000000) // 2^971, the greatest one's last bit, of which a half is a tie
	same(t, floats.Add(greatest, step-1<<52), inf, "Add", greatest)
	same(t, floats.Add(greatest, step-1<<52-1), greatest, "Add", greatest)
}

func TestSumAndProductAreRoundedEach(t *testing.T) {
	m := mixer(3)
	for range 1000 {
		a, b := m.floatNear(), m.floatNear()
		product := floats.Mul(a, b)
		if isNaN(product) || isInf(product) {
			continue
		}
		same(t, floats.Sub(floats.Mul(a, b), product), 0, "Sub of Mul", a, b)
		same(t, floats.Add(floats.Mul(a, b), floats.Neg(product)), 0, "Add of Mul", a, b)
	}
}

func TestNeg(t *testing.T) {
	for _, a := range samples(1000) {
		want := a ^ negZero
		if isNaN(a) {
			want = floats.NaN
		}
		same(t, floats.Neg(a), want, "Neg", a)
	}
}

// P103

func TestEqualLess(t *testing.T) {
	pairs(5000, func(a, b uint64) {
		equal, less := wantEqualLess(a, b)
		if floats.Equal(a, b) != equal {
			t.Errorf("Equal(%#x, %#x) is not %v", a, b, equal)
		}
		if floats.Less(a, b) != less {
			t.Errorf("Less(%#x, %#x) is not %v", a, b, less)
		}
		if floats.LessEq(a, b) != (less || equal) {
			t.Errorf("LessEq(%#x, %#x) is not %v", a, b, less || equal)
		}
	})
}

// P104

func TestCompareOfNamedFloats(t *testing.T) {
	all := rising()
	for i, a := range all {
		for j, b := range all {
			if got := floats.Compare(a, b); got != cmp.Compare(i, j) {
				t.Errorf("Compare(%#x, %#x) = %d, not %d", a, b, got, cmp.Compare(i, j))
			}
		}
		for _, n := range nans() {
			if floats.Compare(a, n) != -1 || floats.Compare(n, a) != 1 {
				t.Errorf("NaN %#x is not behind %#x", n, a)
			}
		}
	}
	for _, a := range nans() {
		for _, b := range nans() {
			if got := floats.Compare(a, b); got != 0 {
				t.Errorf("Compare(%#x, %#x) = %d", a, b, got)
			}
		}
	}
}

// rank: where a float stands in the total order.
func rank(a uint64) uint64 {
	switch {
	case isNaN(a):
		return math.MaxUint64
	case sign(a) != 0:
		return ^a
	}
	return a | negZero
}

func TestCompareIsATotalOrder(t *testing.T) {
	pairs(5000, func(a, b uint64) {
		want := cmp.Compare(rank(a), rank(b))
		if got := floats.Compare(a, b); got != want {
			t.Errorf("Compare(%#x, %#x) = %d, not %d", a, b, got, want)
		}
	})
}

// P105

func TestNextOfNamedFloats(t *testing.T) {
	for _, c := range [][2]uint64{
		{negInf, greatest | negZero},
		{greatest | negZero, greatest - 1 | negZero},
		{0x8010000000000000, 0x800fffffffffffff},
		{negZero | 1, negZero},
		{negZero, 0},
		{0, 1},
		{0x000fffffffffffff, 0x0010000000000000},
		{0x3fefffffffffffff, one},
		{one, one + 1},
		{greatest, inf},
		{inf, floats.NaN},
	} {
		same(t, floats.Next(c[0]), c[1], "Next", c[0])
	}
	for _, a := range nans() {
		same(t, floats.Next(a), floats.NaN, "Next", a)
	}
}

func TestNextIsTheNextNumber(t *testing.T) {
	for _, a := range samples(1000) {
		if isNaN(a) || isZero(a) || a == inf || a == negZero|1 {
			continue
		}
		want := math.Nextafter(math.Float64frombits(a), math.Inf(1))
		same(t, floats.Next(a), math.Float64bits(want), "Next", a)
	}
}

// P106

// ints: from -2^63 to 2^63 - 1, with the neighbours of all powers of 2.
func ints() []int64 {
	all := []int64{math.MinInt64, math.MinInt64 + 1, math.MaxInt64, math.MaxInt64 - 1, 0, 10, 1e15}
	for k := range 63 {
		for d := int64(-4); d <= 4; d++ {
			n := int64(1)<<k + d
			all = append(all, n, -n)
		}
		if k > 53 {
			tie := int64(1)<<k + 1<<(k-53)
			all = append(all, tie, tie-1, tie+1, -tie, 3*(tie>>2))
		}
	}
	m := mixer(4)
	for range 1000 {
		n := int64(m.next())
		all = append(all, n, n>>(m.next()%64))
	}
	return all
}

func TestFromInt(t *testing.T) {
	for _, n := range ints() {
		want := uint64(0)
		if n != 0 {
			want = nearest(new(big.Rat).SetInt64(n))
		}
		if got := floats.FromInt(n); got != want {
			t.Errorf("FromInt(%d) = %#x, not %#x", n, got, want)
		}
	}
	for _, c := range []struct {
		n    int64
		want uint64
	}{
		{0, 0}, {1, one}, {-1, one | negZero},
		{1<<53 - 1, 0x433fffffffffffff},
		{1 << 53, 0x4340000000000000},
		{1<<53 + 1, 0x4340000000000000},
		{1<<53 + 2, 0x4340000000000001},
		{1<<53 + 3, 0x4340000000000002},
		{-1<<53 - 1, 0xc340000000000000},
		{-1<<53 - 3, 0xc340000000000002},
		{math.MaxInt64, 0x43e0000000000000},
		{math.MinInt64, 0xc3e0000000000000},
	} {
		if got := floats.FromInt(c.n); got != c.want {
			t.Errorf("FromInt(%d) = %#x, not %#x", c.n, got, c.want)
		}
	}
}

// wantInt: by whole fractions.
func wantInt(a uint64) (int64, api.Errno) {
	if isNaN(a) || isInf(a) {
		return 0, api.ErrConv
	}
	r := exact(a)
	n := new(big.Int).Quo(r.Num(), r.Denom())
	if !n.IsInt64() {
		return 0, api.ErrConv
	}
	return n.Int64(), api.OK
}

func TestToInt(t *testing.T) {
	for _, a := range samples(5000) {
		n, e := floats.ToInt(a)
		if want, wantE := wantInt(a); n != want || e != wantE {
			t.Errorf("ToInt(%#x) = %d, %d, not %d, %d", a, n, e, want, wantE)
		}
	}
	for _, c := range []struct {
		x float64
		n int64
		e api.Errno
	}{
		{1.5, 1, api.OK}, {-1.5, -1, api.OK}, {0.9999, 0, api.OK}, {-0.9999, 0, api.OK},
		{math.Copysign(0, -1), 0, api.OK},
		{-0x1p63, math.MinInt64, api.OK},
		{math.Nextafter(-0x1p63, math.Inf(-1)), 0, api.ErrConv},
		{math.Nextafter(-0x1p63, 0), math.MinInt64 + 1024, api.OK},
		{0x1p63, 0, api.ErrConv},
		{math.Nextafter(0x1p63, 0), math.MaxInt64 - 1023, api.OK},
		{math.Inf(1), 0, api.ErrConv}, {math.Inf(-1), 0, api.ErrConv},
		{math.MaxFloat64, 0, api.ErrConv}, {-math.MaxFloat64, 0, api.ErrConv},
	} {
		if n, e := floats.ToInt(math.Float64bits(c.x)); n != c.n || e != c.e {
			t.Errorf("ToInt of %g = %d, %d, not %d, %d", c.x, n, e, c.n, c.e)
		}
	}
}

// P109

func TestParseOfTextIsCanon(t *testing.T) {
	for _, a := range samples(5000) {
		b, e := floats.Parse(floats.Text(a))
		if e != api.OK {
			t.Errorf("Parse of Text of %#x: %d", a, e)
		}
		same(t, b, floats.Canon(a), "Parse of Text", a)
	}
}

func TestIntsComeBack(t *testing.T) {
	for _, n := range ints() {
		if n < -1<<53 || n > 1<<53 {
			continue
		}
		if back, e := floats.ToInt(floats.FromInt(n)); back != n || e != api.OK {
			t.Errorf("%d comes back as %d, %d", n, back, e)
		}
	}
}

func TestArithmeticTurnedRound(t *testing.T) {
	pairs(5000, func(a, b uint64) {
		same(t, floats.Add(a, b), floats.Add(b, a), "Add", a, b)
		same(t, floats.Mul(a, b), floats.Mul(b, a), "Mul", a, b)
		same(t, floats.Sub(a, b), floats.Add(a, floats.Neg(b)), "Sub", a, b)
	})
}

func TestDifferenceIsZeroJustIfEqual(t *testing.T) {
	pairs(5000, func(a, b uint64) {
		if floats.Class(a) < 3 || floats.Class(b) < 3 {
			return
		}
		if zero := floats.Class(floats.Sub(a, b)) == 3; zero != floats.Equal(a, b) {
			t.Errorf("difference of %#x and %#x: a zero: %v", a, b, zero)
		}
	})
}

// P110

func TestLessIsCompareBelowZero(t *testing.T) {
	pairs(5000, func(a, b uint64) {
		if isNaN(a) || isNaN(b) || isZero(a) && isZero(b) {
			if floats.Less(a, b) {
				t.Errorf("Less(%#x, %#x)", a, b)
			}
			return
		}
		if floats.Less(a, b) != (floats.Compare(a, b) < 0) {
			t.Errorf("Less and Compare of %#x, %#x are at odds", a, b)
		}
	})
}

func TestNothingLiesBeforeNext(t *testing.T) {
	pairs(5000, func(a, b uint64) {
		next := floats.Next(a)
		if isNaN(a) {
			return
		}
		if floats.Compare(a, next) != -1 {
			t.Errorf("Next(%#x) = %#x is not behind it", a, next)
		}
		if floats.Compare(a, b) < 0 && floats.Compare(b, next) < 0 {
			t.Errorf("%#x lies between %#x and its Next %#x", b, a, next)
		}
	})
}

// The chapter's examples.

func TestExamplesOfTheChapter(t *testing.T) {
	same(t, floats.Add(one, two), 0x4008000000000000, "Add", one, two)
	same(t, floats.Div(one, 0), inf, "Div", one, 0)
	same(t, floats.Div(0, 0), floats.NaN, "Div", 0, 0)
	same(t, floats.Add(negZero, 0), 0, "Add", negZero, 0)
	same(t, floats.Neg(0), negZero, "Neg", 0)
	if !floats.Equal(0, negZero) || floats.Equal(floats.NaN, floats.NaN) {
		t.Error("Equal")
	}
	if floats.Compare(negZero, 0) != -1 || floats.Compare(floats.NaN, floats.NaN) != 0 {
		t.Error("Compare")
	}
	tenth, e := floats.Literal("0.1")
	if e != api.OK {
		t.Error("Literal", e)
	}
	same(t, tenth, 0x3fb999999999999a, "Literal")
	if n, e := floats.ToInt(0xbff8000000000000); n != -1 || e != api.OK {
		t.Error("ToInt of -1.5", n, e)
	}
	if n, e := floats.ToInt(0x43e0000000000000); n != 0 || e != api.ErrConv {
		t.Error("ToInt of 2^63", n, e)
	}
}
