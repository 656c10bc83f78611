package names

import (
	"cmp"
	"slices"
)

// Cmp: -1, 0 or 1, as a is less than b, is it, or is more.
func Cmp(a, b string) int {
	return cmp.Compare(a, b)
}

// Set: the set of l's texts.
func Set(l []string) []string {
	return setOf(l)
}

// Find: the least place in l at which s stands, and true; 0 and false, if there is none.
func Find(l []string, s string) (int, bool) {
	at := slices.Index(l, s)
	return max(at, 0), at >= 0
}

// Union: the set of the texts that are in one of the lists.
func Union(a, b []string) []string {
	return setOf(slices.Concat(a, b))
}

// Minus: the set of the texts that are in a and not in b.
func Minus(a, b []string) []string {
	return pick(a, b, false)
}

// Both: the set of the texts that are in both lists.
func Both(a, b []string) []string {
	return pick(a, b, true)
}

// setOf: the values of l in order, each once. The list is new, since sorting l itself would change it.
func setOf[T cmp.Ordered](l []T) []T {
	set := append([]T(nil), l...)
	slices.Sort(set)
	return slices.Compact(set)
}

// pick: the set of a's values that are in b too, or of those that are not.
func pick[T cmp.Ordered](a, b []T, shared bool) []T {
	others := setOf(b)
	dropped := func(v T) bool {
		_, there := slices.BinarySearch(others, v)
		return there != shared
	}
	return slices.DeleteFunc(setOf(a), dropped)
}
