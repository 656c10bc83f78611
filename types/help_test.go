package types_test

import (
	"fmt"
	"math"
	"slices"
	"strings"
	"testing"

	"foundry/api"
	"foundry/floats"
)

const (
	infinity = 0x7ff0000000000000
	signBit  = 1 << 63
)

// is fails unless got is what it has to be.
func is[T comparable](t *testing.T, what string, got, want T) {
	t.Helper()
	if got != want {
		t.Errorf("%s: %v, not %v", what, got, want)
	}
}

func value(typ int, bits uint64) api.Value {
	return api.Value{Type: typ, Bits: bits}
}

func constant(name string, typ int, bits uint64) api.Item {
	return api.Item{Kind: api.DConst, Name: name, Type: typ, Bits: bits}
}

// num: a constant that is an int.
func num(name string, n uint64) api.Item {
	return constant(name, api.TInt, n)
}

func fn(name string, result int, params ...int) api.Item {
	return api.Item{Kind: api.DFn, Name: name, Type: result, Params: params}
}

func iface(name string, items ...api.Item) api.Iface {
	return api.Iface{Name: name, Items: items}
}

// long: a text of n letters.
func long(n int) string {
	return strings.Repeat("a", n)
}

// times: a list of n of them.
func times[T any](n int, x T) []T {
	var l []T
	for range n {
		l = append(l, x)
	}
	return l
}

// valueTypes: the types of values.
func valueTypes() []int {
	return []int{api.TInt, api.TFloat, api.TBool}
}

// noTypes: numbers that are types of no values.
func noTypes() []int {
	return []int{api.TNone, -1, -2, -3, 4, 5, 7, 255, 256, 257, 1 << 16, 1<<32 + 1, -1 << 32, math.MinInt, math.MinInt + 1, math.MaxInt, math.MaxInt - 1}
}

func allTypes() []int {
	return append(valueTypes(), noTypes()...)
}

// noKinds: numbers that are no kind of an item.
func noKinds() []int {
	return []int{0, api.DVar, 4, 5, -1, -3, 257, 1<<32 + 1, math.MinInt, math.MaxInt}
}

// edges: bits at which one type or another parts.
func edges() []uint64 {
	return []uint64{
		0, 1, 2, 3, 10, 255, 256, 1<<32 - 1, 1 << 32, 1<<63 - 1, 1 << 63, 1<<63 + 1, math.MaxUint64 - 1, math.MaxUint64,
		1 << 52, 0x3ff0000000000000, 0x3ff8000000000000, 0xbff8000000000000, 0x3fb999999999999a,
		infinity - 1, infinity, signBit | infinity, signBit | (infinity - 1), floats.NaN,
	}
}

// otherNaNs: NaNs of each bit, and both signs, but the one that is told.
func otherNaNs() []uint64 {
	l := []uint64{infinity + 2, 0x7fffffffffffffff, 0x7ff8000000000000, 0x7ff8000000000002, 0x7ff8000000000003, 0x7ff0000000000001, 0xfff8000000000001, 0xfff8000000000000, 0xfff0000000000001, math.MaxUint64}
	for bit := range 52 {
		l = append(l, infinity|1<<bit, signBit|infinity|1<<bit)
		if bit > 0 {
			l = append(l, floats.NaN^1<<bit)
		}
	}
	return slices.DeleteFunc(l, func(a uint64) bool { return a == floats.NaN || !isNaN(a) })
}

// wrongNames: texts that are no names, each wrong in its own way, with the error of each.
func wrongNames() map[string]api.Errno {
	return map[string]api.Errno{
		"": api.ErrName, "9a": api.ErrName, "a-b": api.ErrName, "a.b": api.ErrName, " a": api.ErrName, "a\x00": api.ErrName, "\xff": api.ErrName, "é": api.ErrName,
		"while": api.ErrName, "int": api.ErrName, "nan": api.ErrName,
		long(33): api.ErrBig, long(1000): api.ErrBig, long(33) + " ": api.ErrName,
	}
}

// rightItems: items that are right, no two of them alike.
func rightItems() []api.Item {
	var l []api.Item
	for _, name := range []string{"a", "X", "_", "f9", long(32)} {
		for _, bits := range edges() {
			l = append(l, num(name, bits), constant(name, api.TFloat, bits))
		}
		l = append(l, constant(name, api.TBool, 0), constant(name, api.TBool, 1))
		for _, result := range append(valueTypes(), api.TNone) {
			l = append(l, fn(name, result))
			for _, a := range valueTypes() {
				l = append(l, fn(name, result, a), fn(name, result, times(8, a)...))
				for _, b := range valueTypes() {
					l = append(l, fn(name, result, a, b))
					l = append(l, fn(name, result, a, b, a))
				}
			}
		}
	}
	// A few of these stand there twice, or are NaNs that are none of the values.
	slices.SortFunc(l, func(a, b api.Item) int { return strings.Compare(itemKey(a), itemKey(b)) })
	l = slices.CompactFunc(l, func(a, b api.Item) bool { return itemKey(a) == itemKey(b) })
	return slices.DeleteFunc(l, func(i api.Item) bool {
		return i.Kind == api.DConst && i.Type == api.TFloat && isNaN(i.Bits) && i.Bits != floats.NaN
	})
}

// itemKey: all that an item has; unlike ones have unlike keys.
func itemKey(i api.Item) string {
	return fmt.Sprintf("%d %q %d %d %d", i.Kind, i.Name, i.Type, i.Bits, append([]int{}, i.Params...))
}

func itemsKey(l []api.Item) string {
	var keys []string
	for _, i := range l {
		keys = append(keys, itemKey(i))
	}
	return strings.Join(keys, "\n")
}

func ifaceKey(f api.Iface) string {
	return fmt.Sprintf("%q %d\n%s", f.Name, len(f.Items), itemsKey(f.Items))
}

// wholeKey: a key of the items with what stands in the spare room of each list.
func wholeKey(l []api.Item) string {
	l = l[:cap(l)]
	keys := []string{itemsKey(l)}
	for _, i := range l {
		keys = append(keys, fmt.Sprint(i.Params[:cap(i.Params)], len(i.Params)))
	}
	return strings.Join(keys, "\n")
}

// roomy: the same items, each list of them by itself, with something in its spare room.
func roomy(l []api.Item) []api.Item {
	c := make([]api.Item, 0, len(l)+2)
	for _, i := range l {
		i.Params = append(append(make([]int, 0, len(i.Params)+2), i.Params...), 77, 78)[:len(i.Params)]
		c = append(c, i)
	}
	return append(c, num("spare", 1), num("spare", 2))[:len(l)]
}

func roomyIface(f api.Iface) api.Iface {
	f.Items = roomy(f.Items)
	return f
}

// scribble writes over all that the items have, spare room too.
func scribble(l []api.Item) {
	l = l[:cap(l)]
	for at := range l {
		for p := range l[at].Params[:cap(l[at].Params)] {
			l[at].Params[:cap(l[at].Params)][p] = -99
		}
		l[at].Name, l[at].Bits = "scribble", 99
	}
}

// mixer: numbers without a pattern, the same ones each time.
type mixer uint64

func (x *mixer) next() uint64 {
	*x += 0x9e3779b97f4a7c15
	z := uint64(*x)
	z = (z ^ z>>30) * 0xbf58476d1ce4e5b9
	z = (z ^ z>>27) * 0x94d049bb133111eb
	return z ^ z>>31
}

func (x *mixer) below(n int) int {
	return int(x.next() % uint64(n))
}

func pick[T any](x *mixer, l []T) T {
	return l[x.below(len(l))]
}

func (x *mixer) name() string {
	return pick(x, []string{"a", "b", "ab", "B", "_", "c", "c1", "d", "zz", "Z"})
}

// rightItem: an item that is right.
func (x *mixer) rightItem() api.Item {
	switch x.below(4) {
	case 0:
		return num(x.name(), uint64(x.below(3)))
	case 1:
		return constant(x.name(), api.TFloat, pick(x, []uint64{0, 1, signBit, floats.NaN, infinity}))
	case 2:
		return constant(x.name(), api.TBool, uint64(x.below(2)))
	}
	f := fn(x.name(), x.below(4))
	for range x.below(4) {
		f.Params = append(f.Params, pick(x, valueTypes()))
	}
	return f
}

// item: an item that may be wrong in a field or two.
func (x *mixer) item() api.Item {
	i := x.rightItem()
	for range x.below(3) {
		switch x.below(7) {
		case 0:
			i.Kind = pick(x, noKinds())
		case 1:
			i.Name = pick(x, []string{"", "9", "while", long(33), "a b", "q"})
		case 2:
			i.Type = pick(x, allTypes())
		case 3:
			i.Bits = pick(x, append(edges(), otherNaNs()...))
		case 4:
			i.Params = append(i.Params, pick(x, allTypes()))
		case 5:
			i.Params = times(7+x.below(4), pick(x, allTypes()))
		case 6:
			i.Kind = 4 - i.Kind
		}
	}
	return i
}

// items: some items out of any order, names twice too.
func (x *mixer) items(n int, one func() api.Item) []api.Item {
	var l []api.Item
	for range x.below(n + 1) {
		l = append(l, one())
	}
	return l
}

// rightIface: an interface that is right.
func (x *mixer) rightIface(name string) api.Iface {
	return iface(name, sortedUnlike(x.items(6, x.rightItem))...)
}

// near: the interface with something about it changed.
func (x *mixer) near(f api.Iface) api.Iface {
	f = roomyIface(f)
	if len(f.Items) == 0 {
		return iface(f.Name, x.rightItem())
	}
	at := x.below(len(f.Items))
	switch x.below(4) {
	case 0:
		f.Items = slices.Delete(f.Items, at, at+1)
	case 1:
		f.Items[at] = x.rightItem()
	case 2:
		f.Items[at].Bits ^= 1
	case 3:
		f.Items = append(f.Items, x.rightItem())
	}
	return roomyIface(f)
}
