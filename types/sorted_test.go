package types_test

import (
	"fmt"
	"slices"
	"testing"

	"foundry/api"
	"foundry/types"
)

func isSorted(t *testing.T, l, want []api.Item) {
	t.Helper()
	is(t, "Sorted of "+itemsKey(l), itemsKey(types.Sorted(l)), itemsKey(want))
}

// F8.3: Sorted

func TestSortedOfNoItems(t *testing.T) {
	is(t, "items of Sorted of none", len(types.Sorted(nil)), 0)
	is(t, "items of Sorted of none", len(types.Sorted([]api.Item{})), 0)
	is(t, "items of Sorted of none", len(types.Sorted(roomy(nil))), 0)
}

func TestSortedOfItemsInOrderAndTurnedRound(t *testing.T) {
	for _, n := range []int{1, 2, 3, 10, 64, 65, 1000} {
		want := inOrder(n)
		isSorted(t, want, want)
		turned := inOrder(n)
		slices.Reverse(turned)
		isSorted(t, turned, want)
	}
}

func TestSortedGoesByTheOrderOfNames(t *testing.T) {
	var want, l []api.Item
	for _, name := range []string{"", "\x00", "A", "Z", "_", "a", "a0", "aB", "aa", "ab", "b", "\x7f", "é", "\xff"} {
		want = append(want, num(name, 1))
		l = slices.Insert(l, len(l)/2, num(name, 1))
	}
	isSorted(t, l, want)
}

func TestSortedLeavesLikeNamesAsTheyStood(t *testing.T) {
	a1, a2, a3, b1, b2 := num("a", 9), fn("a", 0), num("a", 1), fn("b", 3, 2), num("b", 0)
	isSorted(t, []api.Item{b1, a1, b2, a2, a3}, []api.Item{a1, a2, a3, b1, b2})
	isSorted(t, []api.Item{b2, a3, b1, a1, a2}, []api.Item{a3, a1, a2, b2, b1})
	isSorted(t, []api.Item{a2, a1, a3}, []api.Item{a2, a1, a3})
	var l []api.Item
	for at := range 3000 {
		l = append(l, num([]string{"c", "a", "b"}[at*7%3], uint64(at)))
	}
	isSorted(t, l, modelSorted(l))
}

func TestSortedTakesItemsThatAreNotRight(t *testing.T) {
	wrong := []api.Item{{Kind: 7, Name: "b", Params: []int{99}}, {}, {Name: "a b", Bits: 3}, {Kind: -1, Name: "b", Type: 50}}
	isSorted(t, wrong, []api.Item{wrong[1], wrong[2], wrong[0], wrong[3]})
}

func TestSortedChangesNothingAndSharesNothing(t *testing.T) {
	l := roomy([]api.Item{fn("c", 1, 1, 2), fn("a", 0), fn("b", 3, 3), fn("a", 2, 1)})
	before := wholeKey(l)
	one, other := types.Sorted(l), types.Sorted(l)
	is(t, "what Sorted was given", wholeKey(l), before)
	want := itemsKey(one)
	scribble(other)
	is(t, "items beside such as were written over", itemsKey(one), want)
	is(t, "what Sorted was given", wholeKey(l), before)
	scribble(l)
	is(t, "items whose source was written over", itemsKey(one), want)
	// One list of an answer has no room that is another one's.
	for at := range one {
		rest := slices.Concat(one[:at], one[at+1:])
		key := itemsKey(rest)
		scribble(one[at : at+1 : at+1])
		is(t, "the other items of an answer", itemsKey(rest), key)
	}
}

// P803

func TestSortedHasTheSameItems(t *testing.T) {
	x := mixer(87)
	for range 3000 {
		l := x.items(40, x.item)
		isSorted(t, l, modelSorted(l))
		isSorted(t, types.Sorted(l), types.Sorted(l))
		count := map[string]int{}
		for _, i := range l {
			count[itemKey(i)]++
		}
		for _, i := range types.Sorted(l) {
			count[itemKey(i)]--
		}
		for key, n := range count {
			is(t, "how often more "+key, n, 0)
		}
	}
}

func TestSortedItemsWithUnlikeNamesMakeARightInterface(t *testing.T) {
	x := mixer(88)
	for range 1000 {
		var l []api.Item
		for at := range x.below(65) {
			i := x.rightItem()
			i.Name = fmt.Sprintf("%s_%d", i.Name, at)
			l = slices.Insert(l, x.below(len(l)+1), i)
		}
		isRightIface(t, iface("m", types.Sorted(l)...), api.OK)
	}
}
