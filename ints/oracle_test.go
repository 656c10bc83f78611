package ints_test

import (
	"math"
	"math/big"
	"testing"

	"foundry/api"
)

const (
	least    = math.MinInt64
	greatest = math.MaxInt64
)

// edges: the numbers that the document names, their neighbours, and those about the roots and the halves of them.
func edges() []int64 {
	near := []int64{least, least / 2, least / 3, -1 << 32, -3037000500, -1 << 31, -10, 0, 10,
		1 << 31, 3037000500, 1 << 32, greatest / 3, greatest/2 + 1, greatest}
	seen := map[int64]int{}
	var all []int64
	for _, n := range near {
		for d := int64(-2); d <= 2; d++ {
			v := new(big.Int).Add(big.NewInt(n), big.NewInt(d))
			if v.IsInt64() && seen[v.Int64()] == 0 {
				seen[v.Int64()] = 1
				all = append(all, v.Int64())
			}
		}
	}
	return all
}

// mixer: the same numbers in each run.
type mixer uint64

func (m *mixer) next() uint64 {
	*m += 0x9e3779b97f4a7c15
	z := uint64(*m)
	z = (z ^ z>>30) * 0xbf58476d1ce4e5b9
	z = (z ^ z>>27) * 0x94d049bb133111eb
	return z ^ z>>31
}

// number: of any count of bits, so that products stay within 64 of them about as often as not.
func (m *mixer) number() int64 {
	return int64(m.next()) >> (m.next() % 64)
}

// samples: the edges, and n others.
func samples(n int) []int64 {
	m := mixer(1)
	all := edges()
	for range n {
		all = append(all, m.number())
	}
	return all
}

// pairs calls f with all pairs of edges and with n others.
func pairs(n int, f func(a, b int64)) {
	for _, a := range edges() {
		for _, b := range edges() {
			f(a, b)
		}
	}
	m := mixer(2)
	for range n {
		f(m.number(), m.number())
	}
}

// triples calls f with triples of few edges and with n others.
func triples(n int, f func(a, b, c int64)) {
	few := []int64{least, least + 1, -1 << 62, -3, -1, 0, 1, 2, 1 << 62, greatest - 1, greatest}
	for _, a := range few {
		for _, b := range few {
			for _, c := range few {
				f(a, b, c)
			}
		}
	}
	m := mixer(3)
	for range n {
		f(m.number(), m.number(), m.number())
	}
}

// whole: what a call answers where the whole number is v.
func whole(v *big.Int) (int64, api.Errno) {
	if !v.IsInt64() {
		return 0, api.ErrRange
	}
	return v.Int64(), api.OK
}

// reckoned: what a call answers where the whole number is f's of a and b.
func reckoned(f func(z, x, y *big.Int) *big.Int, a, b int64) (int64, api.Errno) {
	return whole(f(new(big.Int), big.NewInt(a), big.NewInt(b)))
}

// answers fails unless a call answered just that.
func answers(t *testing.T, what string, args any, got int64, gotError api.Errno, want int64, wantError api.Errno) {
	t.Helper()
	if got != want || gotError != wantError {
		t.Errorf("%s of %v: %d, %d, not %d, %d", what, args, got, gotError, want, wantError)
	}
}
