package types_test

import (
	"fmt"
	"slices"
	"strings"
	"testing"

	"foundry/api"
	"foundry/floats"
	"foundry/types"
)

// isDiff fails unless Diff of the two is these names, also turned round (P802).
func isDiff(t *testing.T, a, b api.Iface, want ...string) {
	t.Helper()
	for _, got := range [][]string{types.Diff(a, b), types.Diff(b, a)} {
		if !slices.Equal(got, want) {
			t.Errorf("Diff of %s and %s: %q, not %q", ifaceKey(a), ifaceKey(b), got, want)
		}
	}
}

// F8.3: Diff

func TestDiffOfItemsThatOneHasAlone(t *testing.T) {
	a, b, c := num("a", 1), fn("b", 2, 1), num("c", 3)
	isDiff(t, iface("m"), iface("m"))
	isDiff(t, iface("m", a, b, c), iface("m"), "a", "b", "c")
	isDiff(t, iface("m", a, b, c), iface("m", b), "a", "c")
	isDiff(t, iface("m", a, b, c), iface("m", a, b), "c")
	isDiff(t, iface("m", a, b), iface("m", b, c), "a", "c")
	isDiff(t, iface("m", a), iface("m", c), "a", "c")
}

func TestDiffOfUnlikeItemsOfOneName(t *testing.T) {
	for _, base := range []api.Item{num("b", 5), constant("b", api.TFloat, floats.NaN), fn("b", 0), fn("b", 3, 1, 2, 3)} {
		for _, v := range itemVariants(base) {
			f := iface("m", num("a", 1), base, num("z", 1))
			g := iface("m", num("a", 1), v, num("z", 1))
			if v.Name == base.Name {
				isDiff(t, f, g, "b")
				continue
			}
			want := []string{"b", v.Name}
			slices.Sort(want)
			isDiff(t, f, g, want...)
		}
	}
	none, empty := fn("b", 1), fn("b", 1)
	none.Params, empty.Params = nil, []int{}
	isDiff(t, iface("m", none), iface("m", empty))
}

func TestDiffAsksForTheFirstItemOfAName(t *testing.T) {
	one, two := num("a", 1), num("a", 2)
	isDiff(t, iface("m", one, two), iface("m", one))
	isDiff(t, iface("m", one, two), iface("m", one, two, two))
	isDiff(t, iface("m", one, two), iface("m", two, one), "a")
	isDiff(t, iface("m", one, one, one), iface("m", two, two), "a")
	isDiff(t, iface("m", one, two, two), iface("m"), "a")
}

func TestDiffIsASetWhateverTheOrder(t *testing.T) {
	a, b, c := num("a", 1), num("b", 1), num("c", 1)
	isDiff(t, iface("m", c, a, b), iface("m", b, c, a))
	isDiff(t, iface("m", c, b, a, c, b), iface("m"), "a", "b", "c")
	isDiff(t, iface("m", c), iface("m", b, a), "a", "b", "c")
	isDiff(t, iface("m", num("z", 1), num("_", 1), num("Z", 1)), iface("m", num("zz", 1), num("", 1)), "", "Z", "_", "z", "zz")
}

func TestDiffDoesNotAskForTheInterfacesName(t *testing.T) {
	isDiff(t, iface("m", num("a", 1)), iface("n", num("a", 1)))
	isDiff(t, iface("", num("a", 1)), iface("while", num("a", 2)), "a")
}

func TestDiffOfItemsThatAreNotRight(t *testing.T) {
	isDiff(t, iface("m", api.Item{}), iface("m"), "")
	isDiff(t, iface("m", api.Item{Kind: 9, Name: "a b"}), iface("m", api.Item{Kind: 8, Name: "a b"}), "a b")
	isDiff(t, iface("m", api.Item{}), iface("m", api.Item{}))
}

func TestDiffOfManyItems(t *testing.T) {
	const many = 30000
	f, g := iface("m", inOrder(many)...), iface("m", inOrder(many)...)
	slices.Reverse(g.Items)
	isDiff(t, f, g)
	g.Items[0].Bits++
	isDiff(t, f, g, fmt.Sprintf("x%04d", many-1))
}

func TestDiffIsTheModelsAndChangesNothing(t *testing.T) {
	x := mixer(89)
	for range 5000 {
		a := roomyIface(iface("m", x.items(8, x.item)...))
		b := roomyIface(iface("m", x.items(8, x.item)...))
		if x.below(2) == 0 {
			b = x.near(a)
		}
		before := wholeKey(a.Items) + wholeKey(b.Items)
		isDiff(t, a, b, modelDiff(a, b)...)
		is(t, "what Diff was given", wholeKey(a.Items)+wholeKey(b.Items), before)
	}
}

func TestDiffAnswersNewMemory(t *testing.T) {
	a, b := iface("m", num("a", 1), num("b", 1)), iface("m")
	l := types.Diff(a, b)
	for at := range l[:cap(l)] {
		l[:cap(l)][at] = "scribble"
	}
	isDiff(t, a, b, "a", "b")
}

// P802

func TestDiffOfAnInterfaceAndItself(t *testing.T) {
	x := mixer(90)
	for range 2000 {
		f := iface(x.name(), x.items(10, x.item)...)
		isDiff(t, f, f)
		isDiff(t, f, roomyIface(f))
	}
}

func TestDiffOfRightOnesIsNothingJustIfTheyAreTheSame(t *testing.T) {
	x := mixer(91)
	seen := map[bool]int{}
	for range 5000 {
		a := x.rightIface("m")
		b := roomyIface(a)
		for range x.below(2) {
			b = x.near(b)
			b.Items = sortedUnlike(b.Items)
		}
		if types.RightIface(a) != api.OK || types.RightIface(b) != api.OK {
			continue
		}
		same := types.SameIface(a, b)
		is(t, "no Diff of "+ifaceKey(a)+" and "+ifaceKey(b), len(types.Diff(a, b)) == 0, same)
		seen[same]++
	}
	if seen[true] < 500 || seen[false] < 500 {
		t.Errorf("only %d that are the same, and %d that are not", seen[true], seen[false])
	}
}

func TestExampleOfDiff(t *testing.T) {
	l := types.Diff(iface("", num("a", 1), num("b", 2)), iface("", num("b", 3), num("c", 4)))
	is(t, "Diff", strings.Join(l, " "), "a b c")
}
