package floats_test

import (
	"math"
	"math/big"
	"testing"

	"foundry/floats"
)

const (
	negZero  = uint64(1 << 63)
	inf      = uint64(0x7ff0000000000000)
	negInf   = uint64(0xfff0000000000000)
	greatest = uint64(0x7fefffffffffffff)
	one      = uint64(0x3ff0000000000000)
	two      = uint64(0x4000000000000000)
)

// nans: NaNs of other bits than the constant's, and the constant.
func nans() []uint64 {
	return []uint64{floats.NaN, 0x7ff8000000000000, 0xfff8000000000000, 0xfff8000000000001,
		0x7ff0000000000001, 0xfff0000000000001, 0x7fffffffffffffff, 0xffffffffffffffff,
		0x7ff7ffffffffffff, 0x7ff4000000000000}
}

// rising: finite floats and infinities by the total order, each once.
func rising() []uint64 {
	up := []uint64{0, 1, 2, 3, 0x0007ffffffffffff, 0x0008000000000000, 0x000ffffffffffffe,
		0x000fffffffffffff, 0x0010000000000000, 0x0010000000000001, 0x001fffffffffffff,
		0x0020000000000000, 0x1ff0000000000000, 0x3c90000000000000, 0x3ca0000000000000,
		0x3ca0000000000001, 0x3cb0000000000000, 0x3fb999999999999a, 0x3fe0000000000000,
		0x3fefffffffffffff, one, 0x3ff0000000000001, 0x3ff8000000000000, two,
		0x4008000000000000, 0x4024000000000000, 0x433fffffffffffff, 0x4340000000000000,
		0x4340000000000001, 0x43dfffffffffffff, 0x43e0000000000000, 0x43e0000000000001,
		0x5fefffffffffffff, 0x7fd0000000000000, 0x7fe0000000000000, 0x7feffffffffffffe,
		greatest, inf}
	var all []uint64
	for i := len(up) - 1; i >= 0; i-- {
		all = append(all, up[i]|negZero)
	}
	return append(all, up...)
}

// edges: every float that the document names, and its neighbours.
func edges() []uint64 {
	return append(rising(), nans()...)
}

// mixer: the same numbers in each run.
type mixer uint64

func (m *mixer) next() uint64 {
	*m += 0x9e3779b97f4a7c15
	z := uint64(*m)
	z = (z ^ z>>30) * 0xbf58476d1ce4e5b9
	z = (z ^ z>>27) * 0x94d049bb133111eb
	return z ^ z>>31
}

// floatNear: mostly of ordinary size, so that sums and products are rounded in the middle of the range too.
func (m *mixer) floatNear() uint64 {
	a := m.next()
	if a%4 == 0 {
		return m.next()
	}
	exponent := 1023 - 40 + m.next()%80
	return m.next()&(1<<63|1<<52-1) | exponent<<52
}

// samples: the edges, and n others.
func samples(n int) []uint64 {
	m := mixer(1)
	all := edges()
	for range n {
		all = append(all, m.next(), m.floatNear())
	}
	return all
}

// pairs calls f with all pairs of edges and with n others.
func pairs(n int, f func(a, b uint64)) {
	for _, a := range edges() {
		for _, b := range edges() {
			f(a, b)
		}
	}
	m := mixer(2)
	for range n {
		a, b := m.floatNear(), m.floatNear()
		f(a, b)
		f(a, a^m.next()%8)
	}
}

func isNaN(a uint64) bool  { return a>>52&0x7ff == 0x7ff && a&(1<<52-1) != 0 }
func isInf(a uint64) bool  { return a&^negZero == inf }
func isZero(a uint64) bool { return a&^negZero == 0 }
func sign(a uint64) uint64 { return a & negZero }

// exact: the finite float as a fraction.
func exact(a uint64) *big.Rat {
	r := new(big.Rat)
	r.SetFloat64(math.Float64frombits(a))
	return r
}

// nearest: a fraction that is not 0, rounded once.
func nearest(r *big.Rat) uint64 {
	x, _ := r.Float64()
	return math.Float64bits(x)
}

func wantAdd(a, b uint64) uint64 {
	switch {
	case isNaN(a) || isNaN(b) || isInf(a) && isInf(b) && a != b:
		return floats.NaN
	case isInf(a):
		return a
	case isInf(b):
		return b
	case isZero(a) && isZero(b):
		return a & b
	}
	r := new(big.Rat).Add(exact(a), exact(b))
	if r.Sign() == 0 {
		return 0
	}
	return nearest(r)
}

func wantMul(a, b uint64) uint64 {
	s := sign(a) ^ sign(b)
	switch {
	case isNaN(a) || isNaN(b) || isInf(a) && isZero(b) || isZero(a) && isInf(b):
		return floats.NaN
	case isInf(a) || isInf(b):
		return inf | s
	case isZero(a) || isZero(b):
		return s
	}
	return nearest(new(big.Rat).Mul(exact(a), exact(b)))
}

func wantDiv(a, b uint64) uint64 {
	s := sign(a) ^ sign(b)
	switch {
	case isNaN(a) || isNaN(b) || isInf(a) && isInf(b) || isZero(a) && isZero(b):
		return floats.NaN
	case isInf(a) || isZero(b):
		return inf | s
	case isZero(a) || isInf(b):
		return s
	}
	return nearest(new(big.Rat).Quo(exact(a), exact(b)))
}

// wantEqualLess: by whole fractions, with the infinities beyond them.
func wantEqualLess(a, b uint64) (equal, less bool) {
	switch {
	case isNaN(a) || isNaN(b):
		return false, false
	case isInf(a) || isInf(b):
		return a == b, a != b && (a == negInf || b == inf)
	}
	c := exact(a).Cmp(exact(b))
	return c == 0, c < 0
}

// same fails unless the bits are the same.
func same(t *testing.T, got, want uint64, what string, args ...uint64) {
	t.Helper()
	if got != want {
		t.Errorf("%s of %#x: %#x, not %#x", what, args, got, want)
	}
}
