package ints_test

import (
	"math/big"
	"slices"
	"testing"

	"foundry/api"
	"foundry/ints"
)

// F2.1, P201

func TestAddSubMulNegAreThoseOfWholeNumbers(t *testing.T) {
	pairs(20000, func(a, b int64) {
		args := []int64{a, b}
		v, e := ints.Add(a, b)
		want, wantError := reckoned((*big.Int).Add, a, b)
		answers(t, "Add", args, v, e, want, wantError)
		v, e = ints.Sub(a, b)
		want, wantError = reckoned((*big.Int).Sub, a, b)
		answers(t, "Sub", args, v, e, want, wantError)
		v, e = ints.Mul(a, b)
		want, wantError = reckoned((*big.Int).Mul, a, b)
		answers(t, "Mul", args, v, e, want, wantError)
	})
	for _, a := range samples(5000) {
		v, e := ints.Neg(a)
		want, wantError := whole(new(big.Int).Neg(big.NewInt(a)))
		answers(t, "Neg", a, v, e, want, wantError)
	}
}

func TestAddSubMulNegAtTheEdges(t *testing.T) {
	for _, x := range []struct {
		what    string
		f       func(a, b int64) (int64, api.Errno)
		a, b, v int64
		e       api.Errno
	}{
		{"Add", ints.Add, 2, 3, 5, api.OK},
		{"Add", ints.Add, greatest, 0, greatest, api.OK},
		{"Add", ints.Add, greatest - 1, 1, greatest, api.OK},
		{"Add", ints.Add, greatest, 1, 0, api.ErrRange},
		{"Add", ints.Add, greatest, greatest, 0, api.ErrRange},
		{"Add", ints.Add, least + 1, -1, least, api.OK},
		{"Add", ints.Add, least, -1, 0, api.ErrRange},
		{"Add", ints.Add, least, least, 0, api.ErrRange},
		{"Add", ints.Add, least, greatest, -1, api.OK},
		{"Sub", ints.Sub, 2, 3, -1, api.OK},
		{"Sub", ints.Sub, least, 1, 0, api.ErrRange},
		{"Sub", ints.Sub, least + 1, 1, least, api.OK},
		{"Sub", ints.Sub, least, least, 0, api.OK},
		{"Sub", ints.Sub, 0, least, 0, api.ErrRange},
		{"Sub", ints.Sub, -1, least, greatest, api.OK},
		{"Sub", ints.Sub, greatest, -1, 0, api.ErrRange},
		{"Mul", ints.Mul, -6, 7, -42, api.OK},
		{"Mul", ints.Mul, -6, -7, 42, api.OK},
		{"Mul", ints.Mul, -1 << 62, 2, least, api.OK},
		{"Mul", ints.Mul, 1 << 62, 2, 0, api.ErrRange},
		{"Mul", ints.Mul, 1 << 62, -2, least, api.OK},
		{"Mul", ints.Mul, -1, least, 0, api.ErrRange},
		{"Mul", ints.Mul, least, -1, 0, api.ErrRange},
		{"Mul", ints.Mul, least, 1, least, api.OK},
		{"Mul", ints.Mul, least, 0, 0, api.OK},
		{"Mul", ints.Mul, greatest, -1, least + 1, api.OK},
		{"Mul", ints.Mul, 1 << 32, 1 << 32, 0, api.ErrRange},
		{"Mul", ints.Mul, least, least, 0, api.ErrRange},
		{"Mul", ints.Mul, 3037000499, 3037000499, 9223372030926249001, api.OK},
		{"Mul", ints.Mul, 3037000500, 3037000500, 0, api.ErrRange},
	} {
		v, e := x.f(x.a, x.b)
		answers(t, x.what, []int64{x.a, x.b}, v, e, x.v, x.e)
	}
	for _, x := range []struct {
		a, v int64
		e    api.Errno
	}{{0, 0, api.OK}, {1, -1, api.OK}, {-1, 1, api.OK}, {greatest, least + 1, api.OK},
		{least + 1, greatest, api.OK}, {least, 0, api.ErrRange}} {
		v, e := ints.Neg(x.a)
		answers(t, "Neg", x.a, v, e, x.v, x.e)
	}
}

// F2.2, P201

func TestDivIsTheQuotientTowardsZero(t *testing.T) {
	pairs(20000, func(a, b int64) {
		want, wantError := int64(0), api.ErrZero
		if b != 0 {
			want, wantError = reckoned((*big.Int).Quo, a, b)
		}
		v, e := ints.Div(a, b)
		answers(t, "Div", []int64{a, b}, v, e, want, wantError)
	})
}

func TestRemIsWhatTheQuotientLeaves(t *testing.T) {
	pairs(20000, func(a, b int64) {
		want, wantError := int64(0), api.ErrZero
		if b != 0 {
			q := new(big.Int).Quo(big.NewInt(a), big.NewInt(b))
			want, wantError = whole(q.Sub(big.NewInt(a), q.Mul(q, big.NewInt(b))))
		}
		v, e := ints.Rem(a, b)
		answers(t, "Rem", []int64{a, b}, v, e, want, wantError)
		if v != 0 && v < 0 != (a < 0) {
			t.Errorf("Rem of %d, %d: %d has not the sign of %d", a, b, v, a)
		}
	})
}

func TestDivRemAtTheEdges(t *testing.T) {
	for _, x := range []struct {
		a, b, quotient int64
		divError       api.Errno
		remainder      int64
		remError       api.Errno
	}{
		{7, 2, 3, api.OK, 1, api.OK},
		{-7, 2, -3, api.OK, -1, api.OK},
		{7, -2, -3, api.OK, 1, api.OK},
		{-7, -2, 3, api.OK, -1, api.OK},
		{6, -2, -3, api.OK, 0, api.OK},
		{0, -5, 0, api.OK, 0, api.OK},
		{1, 0, 0, api.ErrZero, 0, api.ErrZero},
		{0, 0, 0, api.ErrZero, 0, api.ErrZero},
		{least, 0, 0, api.ErrZero, 0, api.ErrZero},
		{least, -1, 0, api.ErrRange, 0, api.OK},
		{least + 1, -1, greatest, api.OK, 0, api.OK},
		{greatest, -1, least + 1, api.OK, 0, api.OK},
		{least, 1, least, api.OK, 0, api.OK},
		{least, least, 1, api.OK, 0, api.OK},
		{least, greatest, -1, api.OK, -1, api.OK},
		{greatest, least, 0, api.OK, greatest, api.OK},
		{-1, least, 0, api.OK, -1, api.OK},
	} {
		v, e := ints.Div(x.a, x.b)
		answers(t, "Div", []int64{x.a, x.b}, v, e, x.quotient, x.divError)
		v, e = ints.Rem(x.a, x.b)
		answers(t, "Rem", []int64{x.a, x.b}, v, e, x.remainder, x.remError)
	}
}

// P202

func TestQuotientAndRemainderMakeTheNumber(t *testing.T) {
	pairs(20000, func(a, b int64) {
		q, e := ints.Div(a, b)
		if e != api.OK {
			return
		}
		r, e := ints.Rem(a, b)
		if e != api.OK {
			t.Errorf("Rem of %d, %d: %d, where Div has no error", a, b, e)
		}
		made := new(big.Int).Mul(big.NewInt(b), big.NewInt(q))
		made.Add(made, big.NewInt(r))
		if made.Cmp(big.NewInt(a)) != 0 {
			t.Errorf("%d times %d and %d is not %d", b, q, r, a)
		}
		if big.NewInt(r).CmpAbs(big.NewInt(b)) >= 0 {
			t.Errorf("Rem of %d, %d: %d is not below it", a, b, r)
		}
	})
}

// F2.3

func TestCmpTellsWhichIsAbove(t *testing.T) {
	pairs(5000, func(a, b int64) {
		if got, want := ints.Cmp(a, b), big.NewInt(a).Cmp(big.NewInt(b)); got != want {
			t.Errorf("Cmp of %d, %d: %d, not %d", a, b, got, want)
		}
	})
	for _, a := range edges() {
		if got := ints.Cmp(a, a); got != 0 {
			t.Errorf("Cmp of %d and itself: %d", a, got)
		}
	}
}

func checkSum(t *testing.T, l []int64, want int64, wantAt int, wantError api.Errno) {
	t.Helper()
	v, at, e := ints.Sum(l)
	if v != want || at != wantAt || e != wantError {
		t.Errorf("Sum of %v: %d, %d, %d, not %d, %d, %d", l, v, at, e, want, wantAt, wantError)
	}
}

func TestSumTellsTheFirstThatIsTooMuch(t *testing.T) {
	checkSum(t, nil, 0, 0, api.OK)
	checkSum(t, []int64{}, 0, 0, api.OK)
	checkSum(t, []int64{5}, 5, 0, api.OK)
	checkSum(t, []int64{least}, least, 0, api.OK)
	checkSum(t, []int64{1, -2, 3}, 2, 0, api.OK)
	checkSum(t, []int64{greatest, least, 1}, 0, 0, api.OK)
	checkSum(t, []int64{greatest, -1, 1}, greatest, 0, api.OK)
	checkSum(t, []int64{greatest, 1, -5}, 0, 1, api.ErrRange)
	checkSum(t, []int64{greatest, 1, -1, 1}, 0, 1, api.ErrRange)
	checkSum(t, []int64{least, -1, 5}, 0, 1, api.ErrRange)
	checkSum(t, []int64{1, 2, 3, greatest, -6}, 0, 3, api.ErrRange)
	checkSum(t, []int64{-1, 0, 0, least, 1}, 0, 3, api.ErrRange)
	checkSum(t, []int64{0, 0, greatest, 0, 1}, 0, 4, api.ErrRange)
	checkSum(t, []int64{greatest, -5, 5, 1, least}, 0, 3, api.ErrRange)
}

func TestSumGoesFromNoughtOneByOne(t *testing.T) {
	m := mixer(4)
	for range 5000 {
		l := make([]int64, m.next()%12)
		for i := range l {
			l[i] = m.number()
			if m.next()%3 == 0 {
				l[i] = int64(m.next())
			}
		}
		sum := new(big.Int)
		wantAt, wantError := 0, api.OK
		for i, v := range l {
			if sum.Add(sum, big.NewInt(v)); !sum.IsInt64() {
				sum, wantAt, wantError = new(big.Int), i, api.ErrRange
				break
			}
		}
		kept := slices.Clone(l)
		checkSum(t, l, sum.Int64(), wantAt, wantError)
		if !slices.Equal(l, kept) {
			t.Errorf("Sum made %v of %v", l, kept)
		}
	}
}

// P204

func TestOrderDoesNotMatter(t *testing.T) {
	pairs(5000, func(a, b int64) {
		v, e := ints.Add(a, b)
		w, f := ints.Add(b, a)
		answers(t, "Add the other way round", []int64{a, b}, w, f, v, e)
		v, e = ints.Mul(a, b)
		w, f = ints.Mul(b, a)
		answers(t, "Mul the other way round", []int64{a, b}, w, f, v, e)
	})
	triples(20000, func(a, b, c int64) {
		checkGroups(t, "Add", ints.Add, a, b, c)
		checkGroups(t, "Mul", ints.Mul, a, b, c)
		checkSumOrder(t, a, b, c)
	})
}

// checkGroups: a and (b and c) is (a and b) and c, where none of them has an error.
func checkGroups(t *testing.T, what string, f func(a, b int64) (int64, api.Errno), a, b, c int64) {
	t.Helper()
	ab, e1 := f(a, b)
	left, e2 := f(ab, c)
	bc, e3 := f(b, c)
	right, e4 := f(a, bc)
	if e1 == api.OK && e2 == api.OK && e3 == api.OK && e4 == api.OK && left != right {
		t.Errorf("%s of %d, %d, %d: %d or %d, as they are grouped", what, a, b, c, left, right)
	}
}

func checkSumOrder(t *testing.T, a, b, c int64) {
	t.Helper()
	v, _, e := ints.Sum([]int64{a, b, c})
	for _, l := range [][]int64{{a, c, b}, {b, a, c}, {b, c, a}, {c, a, b}, {c, b, a}} {
		w, _, f := ints.Sum(l)
		if e == api.OK && f == api.OK && v != w {
			t.Errorf("Sum of %v: %d, but %d in another order", l, w, v)
		}
	}
}

func TestProductOfASumIsTheSumOfTheProducts(t *testing.T) {
	held := 0
	triples(20000, func(a, b, c int64) {
		sum, e1 := ints.Add(b, c)
		left, e2 := ints.Mul(a, sum)
		ab, e3 := ints.Mul(a, b)
		ac, e4 := ints.Mul(a, c)
		right, e5 := ints.Add(ab, ac)
		if e1 != api.OK || e2 != api.OK || e3 != api.OK || e4 != api.OK || e5 != api.OK {
			return
		}
		held++
		if left != right {
			t.Errorf("%d times the sum of %d and %d: %d, the products' sum %d", a, b, c, left, right)
		}
	})
	if held < 1000 {
		t.Errorf("only %d triples had no error", held)
	}
}
