package types_test

import (
	"testing"

	"foundry/api"
	"foundry/floats"
	"foundry/types"
)

func isText(t *testing.T, i api.Item, want string) {
	t.Helper()
	is(t, "Text of "+itemKey(i), types.Text(i), want)
}

// F8.4

func TestTextOfConstants(t *testing.T) {
	isText(t, num("X", 0), "const X: int = 0")
	isText(t, num("X", 1<<63), "const X: int = -9223372036854775808")
	isText(t, num("long_name_9", 1<<64-1), "const long_name_9: int = -1")
	isText(t, constant("Y", api.TFloat, 0x3ff8000000000000), "const Y: float = 0x1.8p+0")
	isText(t, constant("Y", api.TFloat, signBit), "const Y: float = -0x0p+0")
	isText(t, constant("Y", api.TFloat, floats.NaN), "const Y: float = nan")
	isText(t, constant("Y", api.TFloat, signBit|infinity), "const Y: float = -inf")
	isText(t, constant("B", api.TBool, 0), "const B: bool = false")
	isText(t, constant("B", api.TBool, 1), "const B: bool = true")
}

func TestTextOfFunctions(t *testing.T) {
	isText(t, fn("f", api.TNone), "fn f()")
	isText(t, fn("f", api.TInt), "fn f(): int")
	isText(t, fn("f", api.TFloat), "fn f(): float")
	isText(t, fn("f", api.TBool), "fn f(): bool")
	isText(t, fn("g", api.TNone, api.TFloat), "fn g(float)")
	isText(t, fn("g", api.TBool, api.TInt), "fn g(int): bool")
	isText(t, fn("g", api.TNone, api.TInt, api.TBool), "fn g(int, bool)")
	isText(t, fn("h", api.TInt, 1, 2, 3, 1, 2, 3, 1, 2), "fn h(int, float, bool, int, float, bool, int, float): int")
}

func TestTextOfOtherKindsIsNothing(t *testing.T) {
	for _, kind := range noKinds() {
		for _, i := range []api.Item{num("X", 1), fn("f", 1, 2), {}} {
			i.Kind = kind
			isText(t, i, "")
		}
	}
}

func TestTextOfItemsThatAreNotRight(t *testing.T) {
	isText(t, num("", 1), "const : int = 1")
	isText(t, num("a b", 1), "const a b: int = 1")
	isText(t, num(long(100), 1), "const "+long(100)+": int = 1")
	isText(t, constant("B", api.TBool, 2), "const B: bool = true")
	isText(t, constant("Y", api.TFloat, 0xfff8000000000000), "const Y: float = nan")
	isText(t, constant("X", api.TNone, 1), "const X:  = ")
	isText(t, constant("X", -1, 1), "const X:  = ")
	isText(t, api.Item{Kind: api.DConst, Name: "X", Type: api.TInt, Bits: 4, Params: []int{1, 2}}, "const X: int = 4")
	isText(t, fn("", 0), "fn ()")
	isText(t, fn("while", -7), "fn while()")
	isText(t, fn("f", 4, 1), "fn f(int)")
	isText(t, fn("f", 1, 0), "fn f(): int")
	isText(t, fn("f", 1, 0, 9), "fn f(, ): int")
	isText(t, fn("f", 0, 1, -1, 3), "fn f(int, , bool)")
	isText(t, api.Item{Kind: api.DFn, Name: "f", Type: api.TInt, Bits: 4}, "fn f(): int")
	isText(t, fn("f", 0, 1, 1, 1, 1, 1, 1, 1, 1, 1), "fn f(int, int, int, int, int, int, int, int, int)")
}

func TestTextIsTheModels(t *testing.T) {
	x := mixer(92)
	for range 20000 {
		i := roomy([]api.Item{x.item()})[0]
		before := wholeKey([]api.Item{i})
		isText(t, i, modelText(i))
		is(t, "what Text was given", wholeKey([]api.Item{i}), before)
	}
}

// P804

func TestTextsOfRightItemsAreUnlike(t *testing.T) {
	x := mixer(93)
	l := rightItems()
	for range 20000 {
		i := x.rightItem()
		if i.Kind == api.DConst && i.Type == api.TInt {
			i.Bits = x.next() >> x.below(64)
		}
		if i.Kind == api.DConst && i.Type == api.TFloat {
			i.Bits = floats.Canon(x.next() << x.below(64))
		}
		l = append(l, i)
	}
	keys := map[string]string{}
	for _, i := range l {
		isRightItem(t, i, api.OK)
		key, text := itemKey(i), types.Text(i)
		if other, there := keys[text]; there && other != key {
			t.Errorf("Text of %s and of %s: %q", key, other, text)
		}
		keys[text] = key
	}
}

func TestExamplesOfText(t *testing.T) {
	isText(t, constant("X", api.TFloat, 0x3ff8000000000000), "const X: float = 0x1.8p+0")
	isText(t, fn("f", api.TNone, api.TInt, api.TBool), "fn f(int, bool)")
}
