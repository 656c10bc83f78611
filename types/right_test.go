package types_test

import (
	"fmt"
	"math"
	"slices"
	"testing"

	"foundry/api"
	"foundry/floats"
	"foundry/types"
)

func isRightItem(t *testing.T, i api.Item, want api.Errno) {
	t.Helper()
	is(t, "RightItem of "+itemKey(i), types.RightItem(i), want)
}

func isRightIface(t *testing.T, f api.Iface, want api.Errno) {
	t.Helper()
	is(t, "RightIface of "+ifaceKey(f), types.RightIface(f), want)
}

// F8.3: RightItem

func TestRightItems(t *testing.T) {
	for _, i := range rightItems() {
		isRightItem(t, i, api.OK)
		i.Params = append([]int{}, i.Params...)
		isRightItem(t, i, api.OK)
	}
}

func TestRightItemOfNoKind(t *testing.T) {
	for _, kind := range noKinds() {
		for _, i := range []api.Item{num("X", 1), fn("f", 0), fn("while", -1, times(9, 7)...), {}} {
			i.Kind = kind
			isRightItem(t, i, api.ErrArg)
		}
	}
}

func TestRightItemOfAWrongName(t *testing.T) {
	for name, e := range wrongNames() {
		isRightItem(t, num(name, 1), e)
		isRightItem(t, fn(name, api.TBool, api.TInt), e)
	}
}

func TestRightItemAtMaxParams(t *testing.T) {
	if api.MaxParams != 8 {
		t.Fatalf("MaxParams: %d", api.MaxParams)
	}
	for n := range 12 {
		for _, p := range valueTypes() {
			want := api.OK
			if n > api.MaxParams {
				want = api.ErrBig
			}
			isRightItem(t, fn("f", api.TNone, times(n, p)...), want)
		}
	}
	isRightItem(t, fn("f", api.TInt, times(5000, api.TInt)...), api.ErrBig)
}

func TestRightItemOfAConstantWithParams(t *testing.T) {
	for n := range 12 {
		i := num("X", 1)
		i.Params = times(n, api.TInt)
		want := api.ErrArg
		switch {
		case n == 0:
			want = api.OK
		case n > api.MaxParams:
			want = api.ErrBig
		}
		isRightItem(t, i, want)
	}
}

func TestRightItemOfAWrongParam(t *testing.T) {
	for _, p := range noTypes() {
		for n := 1; n <= api.MaxParams; n++ {
			for at := range n {
				i := fn("f", api.TInt, times(n, api.TFloat)...)
				i.Params[at] = p
				isRightItem(t, i, api.ErrArg)
			}
		}
	}
}

func TestRightItemOfAWrongType(t *testing.T) {
	for _, typ := range noTypes() {
		isRightItem(t, constant("X", typ, 0), api.ErrArg)
		isRightItem(t, constant("X", typ, 1), api.ErrArg)
		want := api.ErrArg
		if typ == api.TNone {
			want = api.OK
		}
		isRightItem(t, fn("f", typ), want)
		isRightItem(t, fn("f", typ, api.TBool), want)
	}
}

func TestRightItemOfWrongBits(t *testing.T) {
	for _, bits := range otherNaNs() {
		isRightItem(t, constant("X", api.TFloat, bits), api.ErrArg)
	}
	for _, bits := range edges() {
		isRightItem(t, num("X", bits), api.OK)
		if bits > 1 {
			isRightItem(t, constant("X", api.TBool, bits), api.ErrArg)
		}
		if bits > 0 {
			for _, result := range append(valueTypes(), api.TNone) {
				i := fn("f", result, api.TInt)
				i.Bits = bits
				isRightItem(t, i, api.ErrArg)
			}
		}
	}
}

// spoiled: one way in which an item goes wrong, and what is told of it.
type spoiled struct {
	code  api.Errno
	spoil func(i *api.Item)
}

// ways: in the order in which they are told; those that are told alike in any order.
func ways() []spoiled {
	return []spoiled{
		{api.ErrArg, func(i *api.Item) { i.Kind = api.DVar }},
		{api.ErrName, func(i *api.Item) { i.Name = "a b" }},
		{api.ErrBig, func(i *api.Item) { i.Params = append(i.Params, times(9, api.TInt)...) }},
		{api.ErrArg, func(i *api.Item) { i.Params = append([]int{9}, i.Params...) }},
		{api.ErrArg, func(i *api.Item) { i.Type = 9 }},
		{api.ErrArg, func(i *api.Item) { i.Bits = math.MaxUint64 }},
	}
}

func TestRightItemTellsTheFirstOfTwoFaults(t *testing.T) {
	for _, base := range []api.Item{constant("X", api.TFloat, floats.NaN), constant("X", api.TBool, 1), fn("f", api.TNone), fn("f", api.TInt, api.TInt, api.TBool)} {
		isRightItem(t, base, api.OK)
		for one, first := range ways() {
			for _, second := range ways()[one:] {
				i := roomy([]api.Item{base})[0]
				first.spoil(&i)
				second.spoil(&i)
				isRightItem(t, i, first.code)
			}
		}
	}
	for name, e := range wrongNames() {
		isRightItem(t, fn(name, -1, times(9, 9)...), e)
		isRightItem(t, constant(name, 9, 9), e)
	}
	isRightItem(t, fn("f", -1, times(9, 9)...), api.ErrBig)
}

func TestRightItemIsTheModels(t *testing.T) {
	x := mixer(82)
	seen := map[api.Errno]int{}
	for range 30000 {
		i := x.item()
		isRightItem(t, i, modelRightItem(i))
		seen[types.RightItem(i)]++
	}
	for _, e := range []api.Errno{api.OK, api.ErrArg, api.ErrName, api.ErrBig} {
		if seen[e] < 100 {
			t.Errorf("only %d items with the error %d", seen[e], e)
		}
	}
}

// F8.3: RightIface

// inOrder: n items that are right, in the order of their names.
func inOrder(n int) []api.Item {
	var l []api.Item
	for at := range n {
		name := fmt.Sprintf("x%04d", at)
		if at%2 == 0 {
			l = append(l, num(name, uint64(at)))
		} else {
			l = append(l, fn(name, at%4, times(at%9, api.TInt)...))
		}
	}
	return l
}

func TestRightIfaces(t *testing.T) {
	isRightIface(t, iface("m"), api.OK)
	isRightIface(t, api.Iface{Name: "m", Items: []api.Item{}}, api.OK)
	isRightIface(t, iface("m", num("m", 1)), api.OK)
	isRightIface(t, iface(long(32), num("A", 1), num("_", 1), num("a", 1), fn("a0", 0), fn("aa", 0), num("b", 2)), api.OK)
}

func TestRightIfaceOfAWrongName(t *testing.T) {
	for name, e := range wrongNames() {
		isRightIface(t, iface(name), e)
		isRightIface(t, iface(name, inOrder(3)...), e)
		isRightIface(t, iface(name, inOrder(65)...), e)
		isRightIface(t, iface(name, num("b", 1), num("a", 1), api.Item{}), e)
	}
}

func TestRightIfaceAtMaxItems(t *testing.T) {
	if api.MaxItems != 64 {
		t.Fatalf("MaxItems: %d", api.MaxItems)
	}
	for n := range api.MaxItems + 1 {
		isRightIface(t, iface("m", inOrder(n)...), api.OK)
	}
	for _, n := range []int{65, 66, 100, 1000} {
		isRightIface(t, iface("m", inOrder(n)...), api.ErrBig)
		isRightIface(t, iface("m", append([]api.Item{{}}, inOrder(n)...)...), api.ErrBig)
		isRightIface(t, iface("m", times(n, num("a", 1))...), api.ErrBig)
	}
}

func TestRightIfaceOfAWrongItem(t *testing.T) {
	wrong := []api.Item{{}, num("", 1), num("x5 ", 1), num(long(33), 1), constant("x0", 9, 0), constant("x0001", api.TBool, 2), fn("zz", 0, times(9, 1)...), fn("a", -1), {Kind: api.DVar, Name: "z", Type: 1}}
	for _, i := range wrong {
		e := modelRightItem(i)
		for n := range 5 {
			for at := range n + 1 {
				isRightIface(t, iface("m", slices.Insert(inOrder(n), at, i)...), e)
			}
		}
		isRightIface(t, iface("m", append(inOrder(63), i)...), e)
	}
}

func TestRightIfaceOfNamesTwiceAndOutOfOrder(t *testing.T) {
	a, b, c := num("a", 1), fn("b", 0), num("c", 3)
	isRightIface(t, iface("m", a, a), api.ErrTwice)
	isRightIface(t, iface("m", a, fn("a", api.TBool)), api.ErrTwice)
	isRightIface(t, iface("m", a, b, b), api.ErrTwice)
	isRightIface(t, iface("m", a, b, b, a), api.ErrTwice)
	isRightIface(t, iface("m", b, a), api.ErrArg)
	isRightIface(t, iface("m", a, c, b), api.ErrArg)
	isRightIface(t, iface("m", b, a, a), api.ErrArg)
	isRightIface(t, iface("m", a, b, a), api.ErrArg)
	isRightIface(t, iface("m", c, b, a), api.ErrArg)
	isRightIface(t, iface("m", num("a", 1), num("B", 1)), api.ErrArg)
	isRightIface(t, iface("m", num("aa", 1), num("a", 1)), api.ErrArg)
	isRightIface(t, iface("m", append(inOrder(63), num("x0062", 1))...), api.ErrTwice)
	isRightIface(t, iface("m", append(inOrder(63), num("x0061", 1))...), api.ErrArg)
}

func TestRightIfaceTellsItemByItem(t *testing.T) {
	wrong := constant("a", 9, 0)
	big := fn("a", 0, times(9, 1)...)
	isRightIface(t, iface("m", num("a", 1), num("a", 1), big), api.ErrTwice)
	isRightIface(t, iface("m", num("b", 1), num("a", 1), big), api.ErrArg)
	isRightIface(t, iface("m", num("a", 1), big, num("a", 1)), api.ErrBig)
	isRightIface(t, iface("m", big, wrong), api.ErrBig)
	isRightIface(t, iface("m", wrong, big), api.ErrArg)
	isRightIface(t, iface("m", num("b", 1), big), api.ErrBig)
	isRightIface(t, iface("m", num("a", 1), wrong), api.ErrArg)
	isRightIface(t, iface("m", num("a", 1), num("a b", 1)), api.ErrName)
	isRightIface(t, iface("m", num("b", 1), num("", 1)), api.ErrName)
}

func TestRightIfaceIsTheModels(t *testing.T) {
	x := mixer(83)
	seen := map[api.Errno]int{}
	for range 20000 {
		f := x.rightIface(pick(&x, []string{"m", "main", "m", "m", "", "9"}))
		for range x.below(3) {
			f.Items = slices.Insert(f.Items, x.below(len(f.Items)+1), pick(&x, []func() api.Item{x.item, x.rightItem})())
		}
		isRightIface(t, f, modelRightIface(f))
		seen[types.RightIface(f)]++
	}
	for _, e := range []api.Errno{api.OK, api.ErrArg, api.ErrName, api.ErrBig, api.ErrTwice} {
		if seen[e] < 20 {
			t.Errorf("only %d interfaces with the error %d", seen[e], e)
		}
	}
}

func TestExamplesOfWhatIsRight(t *testing.T) {
	isRight(t, api.TFloat, 0xfff8000000000000, false)
	isRight(t, api.TBool, 2, false)
	isRight(t, api.TInt, 1<<63, true)
	isRightIface(t, iface("m", num("b", 1), num("a", 1)), api.ErrArg)
	isRightIface(t, iface("m", num("a", 1), num("a", 1)), api.ErrTwice)
}
