package types_test

import (
	"slices"
	"testing"

	"foundry/api"
	"foundry/floats"
	"foundry/types"
)

// isSameItem fails unless SameItem of the two is that, also turned round.
func isSameItem(t *testing.T, a, b api.Item, want bool) {
	t.Helper()
	is(t, "SameItem of "+itemKey(a)+" and "+itemKey(b), types.SameItem(a, b), want)
	is(t, "SameItem of "+itemKey(b)+" and "+itemKey(a), types.SameItem(b, a), want)
}

func isSameIface(t *testing.T, a, b api.Iface, want bool) {
	t.Helper()
	is(t, "SameIface of "+ifaceKey(a)+" and "+ifaceKey(b), types.SameIface(a, b), want)
	is(t, "SameIface of "+ifaceKey(b)+" and "+ifaceKey(a), types.SameIface(b, a), want)
}

// itemVariants: the item with one field changed, each by itself.
func itemVariants(base api.Item) []api.Item {
	var l []api.Item
	change := func(how func(i *api.Item)) {
		i := roomy([]api.Item{base})[0]
		how(&i)
		l = append(l, i)
	}
	change(func(i *api.Item) { i.Kind++ })
	change(func(i *api.Item) { i.Kind = ^i.Kind })
	change(func(i *api.Item) { i.Name += "x" })
	change(func(i *api.Item) { i.Name = "Q" })
	change(func(i *api.Item) { i.Type++ })
	change(func(i *api.Item) { i.Type -= 1 << 32 })
	change(func(i *api.Item) { i.Bits ^= 1 })
	change(func(i *api.Item) { i.Bits ^= 1 << 63 })
	change(func(i *api.Item) { i.Params = append(i.Params, 1) })
	change(func(i *api.Item) { i.Params = append([]int{0}, i.Params...) })
	for at := range base.Params {
		change(func(i *api.Item) { i.Params[at]++ })
		change(func(i *api.Item) { i.Params = i.Params[:at] })
	}
	return l
}

// F8.3: SameItem, SameIface

func TestSameItemPartsInOneFieldAlone(t *testing.T) {
	for _, base := range []api.Item{{}, num("X", 5), constant("X", api.TFloat, floats.NaN), fn("f", 0), fn("f", api.TBool, 1, 2, 3), {Kind: -1, Name: "a b", Type: 99, Bits: 7, Params: []int{9, 9}}} {
		isSameItem(t, base, base, true)
		isSameItem(t, base, roomy([]api.Item{base})[0], true)
		for _, v := range itemVariants(base) {
			isSameItem(t, base, v, false)
			isSameItem(t, v, v, true)
		}
	}
}

func TestSameItemOfListsThatBeginAlike(t *testing.T) {
	whole := fn("f", 1, 1, 2, 3, 1, 2, 3, 1, 2, 3)
	for n := range whole.Params {
		part := whole
		part.Params = whole.Params[:n]
		isSameItem(t, whole, part, false)
	}
	none, empty := fn("f", 1), fn("f", 1)
	none.Params, empty.Params = nil, []int{}
	isSameItem(t, none, empty, true)
	isSameItem(t, none, fn("f", 1, 0), false)
	isSameItem(t, fn("f", 1, 1, 2), fn("f", 1, 2, 1), false)
}

func TestSameItemGoesByBits(t *testing.T) {
	zero, other := constant("X", api.TFloat, 0), constant("X", api.TFloat, signBit)
	isSameItem(t, zero, other, false)
	for _, nan := range otherNaNs() {
		isSameItem(t, constant("X", api.TFloat, nan), constant("X", api.TFloat, floats.NaN), false)
	}
}

func TestSameItemIsByKeys(t *testing.T) {
	x := mixer(84)
	l := append(rightItems()[:200], x.items(200, x.item)...)
	for _, a := range l {
		for _, b := range l {
			isSameItem(t, a, b, itemKey(a) == itemKey(b))
		}
	}
}

func TestSameIfacePartsInOneFieldAlone(t *testing.T) {
	base := iface("m", num("a", 1), fn("b", 2, 1, 3), num("c", 5))
	isSameIface(t, base, roomyIface(base), true)
	isSameIface(t, base, iface("n", base.Items...), false)
	isSameIface(t, base, iface("", base.Items...), false)
	for at, i := range base.Items {
		for _, v := range itemVariants(i) {
			f := roomyIface(base)
			f.Items[at] = v
			isSameIface(t, base, f, false)
		}
	}
	turned := roomyIface(base)
	slices.Reverse(turned.Items)
	isSameIface(t, base, turned, false)
}

func TestSameIfaceOfListsThatBeginAlike(t *testing.T) {
	whole := iface("m", inOrder(10)...)
	for n := range 10 {
		isSameIface(t, whole, iface("m", whole.Items[:n]...), false)
	}
	isSameIface(t, api.Iface{Name: "m"}, api.Iface{Name: "m", Items: []api.Item{}}, true)
	isSameIface(t, api.Iface{}, api.Iface{}, true)
	isSameIface(t, iface("m"), iface("m", api.Item{}), false)
	none, empty := iface("m", num("a", 1)), iface("m", num("a", 1))
	none.Items[0].Params, empty.Items[0].Params = nil, []int{}
	isSameIface(t, none, empty, true)
}

func TestSameIfaceIsByKeys(t *testing.T) {
	x := mixer(85)
	for range 5000 {
		a := iface(pick(&x, []string{"m", "n", ""}), x.items(4, x.item)...)
		b := x.near(a)
		isSameIface(t, a, b, ifaceKey(a) == ifaceKey(b))
		isSameIface(t, a, roomyIface(a), true)
	}
}

// F8.3: Get

func isGet(t *testing.T, f api.Iface, name string, want api.Item, there bool) {
	t.Helper()
	i, ok := types.Get(f, name)
	if ok != there || itemKey(i) != itemKey(want) {
		t.Errorf("Get of %q out of %s: %s, %t, not %s, %t", name, ifaceKey(f), itemKey(i), ok, itemKey(want), there)
	}
}

func TestGet(t *testing.T) {
	a, b, c := num("a", 1), fn("b", 2, 1, 3), constant("c", api.TBool, 1)
	f := iface("m", a, b, c)
	isGet(t, f, "a", a, true)
	isGet(t, f, "b", b, true)
	isGet(t, f, "c", c, true)
	for _, name := range []string{"", "d", "A", "ab", "aa", "m", "a ", "while"} {
		isGet(t, f, name, api.Item{}, false)
	}
	isGet(t, iface("m"), "a", api.Item{}, false)
	isGet(t, api.Iface{}, "", api.Item{}, false)
}

func TestGetTellsTheFirstOfSeveral(t *testing.T) {
	f := iface("m", num("z", 0), fn("a", 1, 2), num("a", 7), num("b", 3), num("a", 8))
	isGet(t, f, "a", fn("a", 1, 2), true)
	f = iface("", api.Item{Kind: 99, Type: -5}, num("", 1))
	isGet(t, f, "", api.Item{Kind: 99, Type: -5}, true)
}

func TestGetIsTheModels(t *testing.T) {
	x := mixer(86)
	for range 5000 {
		f := iface("m", x.items(8, x.item)...)
		name := x.name()
		i, there := types.Get(f, name)
		key, want := modelGet(f, name)
		if there != want || there && itemKey(i) != key || !there && itemKey(i) != itemKey(api.Item{}) {
			t.Errorf("Get of %q out of %s: %s, %t", name, ifaceKey(f), itemKey(i), there)
		}
	}
}

func TestGetAnswersNewMemory(t *testing.T) {
	f := roomyIface(iface("m", num("a", 1), fn("b", 2, 1, 3), fn("c", 0)))
	before := wholeKey(f.Items)
	for _, name := range []string{"a", "b", "c"} {
		one, _ := types.Get(f, name)
		other, _ := types.Get(f, name)
		key := itemKey(one)
		scribble([]api.Item{other})
		is(t, "an item beside one that was written over", itemKey(one), key)
		scribble([]api.Item{one})
		is(t, "what Get was given", wholeKey(f.Items), before)
	}
	one, _ := types.Get(f, "b")
	scribble(f.Items)
	isSameItem(t, one, fn("b", 2, 1, 3), true)
}
