package names_test

import (
	"testing"

	"foundry/names"
)

// isFound fails unless Find of s in l is that.
func isFound(t *testing.T, l []string, s string, at int, there bool) {
	t.Helper()
	if i, ok := names.Find(l, s); i != at || ok != there {
		t.Errorf("Find of %q in %q: %d, %t, not %d, %t", s, l, i, ok, at, there)
	}
}

// setCall: a call of two lists by its name, and what the model says of it.
type setCall struct {
	name  string
	call  func(a, b []string) []string
	model func(a, b []string) []string
}

func setCalls() []setCall {
	return []setCall{
		{"Union", names.Union, unionOf},
		{"Minus", names.Minus, minusOf},
		{"Both", names.Both, bothOf},
	}
}

// lists calls f with each edge list and with n others.
func lists(n int, f func(l []string)) {
	for _, l := range edgeLists() {
		f(l)
	}
	m := mixer(5)
	for range n {
		f(m.list(20))
	}
	for range 10 {
		f(m.list(2000))
	}
}

// F4.2

func TestCmpGoesByBytes(t *testing.T) {
	for _, x := range []struct {
		a, b string
		want int
	}{
		{"a", "ab", -1}, {"ab", "a", 1}, {"b", "ab", 1}, {"", "", 0}, {"", "a", -1}, {"a", "", 1}, {"", "\x00", -1},
		{"a", "a", 0}, {"Z", "a", -1}, {"_", "a", -1}, {"Z", "_", -1}, {"9", "A", -1}, {"a", "a\x00", -1},
		{"\x7f", "\x80", -1}, {"\x80", "\x7f", 1}, {"\xff", "a", 1}, {"\xff", "\xfe\xff", 1}, {"é", "f", 1}, {"é", "é", 0},
		{"ab\xff", "ac", -1}, {"abc", "abd", -1}, {"b", "aaaaaaaaaaaaaaaaaaaaaaaaaaaaaaaaaaaaaaaa", 1},
		{"aaaaaaaaaaaaaaaaaaaaaaaaaaaaaaaaaaaaaaaab", "aaaaaaaaaaaaaaaaaaaaaaaaaaaaaaaaaaaaaaaaa", 1},
	} {
		if got := names.Cmp(x.a, x.b); got != x.want {
			t.Errorf("Cmp of %q, %q: %d, not %d", x.a, x.b, got, x.want)
		}
	}
	for a := range 256 {
		for b := range 256 {
			x, y := string([]byte{byte(a)}), string([]byte{byte(b)})
			if got := names.Cmp(x, y); got != order(x, y) {
				t.Errorf("Cmp of %q, %q: %d", x, y, got)
			}
		}
	}
}

func TestSetIsTheModels(t *testing.T) {
	lists(2000, func(l []string) {
		isList(t, "Set", names.Set(l), setOf(l))
	})
}

func TestSetHasTheOrderOfBytes(t *testing.T) {
	isList(t, "Set", names.Set([]string{"\xff", "b", "ab", "a", "", "_", "B", "9", "\x00", "\x80", "b", ""}),
		[]string{"", "\x00", "9", "B", "_", "a", "ab", "b", "\x80", "\xff"})
	isList(t, "Set of nil", names.Set(nil), nil)
	isList(t, "Set of empty texts", names.Set([]string{"", "", ""}), []string{""})
}

func TestFindIsTheLeastPlace(t *testing.T) {
	isFound(t, []string{"x", "y", "y"}, "y", 1, true)
	isFound(t, []string{"y", "x", "y"}, "y", 0, true)
	isFound(t, []string{"c", "b", "a"}, "a", 2, true)
	isFound(t, []string{"c", "b", "a"}, "c", 0, true)
	isFound(t, []string{"a", ""}, "", 1, true)
	isFound(t, []string{""}, "", 0, true)
	isFound(t, []string{"a", "\xff", "\xff"}, "\xff", 1, true)
	isFound(t, []string{"ab", "a", "abc"}, "a", 1, true)
}

func TestFindOfWhatIsNotThere(t *testing.T) {
	isFound(t, nil, "", 0, false)
	isFound(t, []string{}, "", 0, false)
	isFound(t, nil, "a", 0, false)
	isFound(t, []string{"a"}, "", 0, false)
	isFound(t, []string{"a", "b", "c"}, "d", 0, false)
	isFound(t, []string{"a", "b", "c"}, "A", 0, false)
	isFound(t, []string{"ab", "abc"}, "a", 0, false)
	isFound(t, []string{"a"}, "ab", 0, false)
}

func TestFindInAnyList(t *testing.T) {
	lists(500, func(l []string) {
		for _, s := range append([]string{"", "a", "b", "ab", "nowhere", "\xff"}, l[:min(len(l), 20)]...) {
			at, there := 0, count(l, s) > 0
			for there && l[at] != s {
				at++
			}
			isFound(t, l, s, at, there)
		}
	})
}

func TestTwoListsAreTheModels(t *testing.T) {
	for _, c := range setCalls() {
		listPairs(2000, func(a, b []string) {
			if got, want := c.call(a, b), c.model(a, b); !same(got, want) {
				t.Errorf("%s of %q, %q: %q, not %q", c.name, a, b, got, want)
			}
		})
	}
}

func TestTwoListsWithoutOrWithAllInCommon(t *testing.T) {
	l, other := []string{"c", "a", "b", "a"}, []string{"d", "", "d"}
	for _, x := range []struct {
		what      string
		got, want []string
	}{
		{"Union of unlike", names.Union(l, other), []string{"", "a", "b", "c", "d"}},
		{"Minus of unlike", names.Minus(l, other), []string{"a", "b", "c"}},
		{"Both of unlike", names.Both(l, other), nil},
		{"Union of the same", names.Union(l, l), []string{"a", "b", "c"}},
		{"Minus of the same", names.Minus(l, l), nil},
		{"Both of the same", names.Both(l, l), []string{"a", "b", "c"}},
		{"Union with nil", names.Union(l, nil), []string{"a", "b", "c"}},
		{"Union of nil", names.Union(nil, l), []string{"a", "b", "c"}},
		{"Minus with nil", names.Minus(l, nil), []string{"a", "b", "c"}},
		{"Minus of nil", names.Minus(nil, l), nil},
		{"Both with nil", names.Both(l, nil), nil},
		{"Both of nil", names.Both(nil, l), nil},
		{"Union of nil and nil", names.Union(nil, nil), nil},
		{"Minus of nil and nil", names.Minus(nil, nil), nil},
		{"Both of nil and nil", names.Both(nil, nil), nil},
	} {
		isList(t, x.what, x.got, x.want)
	}
}

// P402

func TestSetOfASetIsIt(t *testing.T) {
	lists(1000, func(l []string) {
		set := names.Set(l)
		isList(t, "Set of a set", names.Set(set), set)
		for i := 1; i < len(set); i++ {
			if order(set[i-1], set[i]) >= 0 {
				t.Errorf("Set of %q: %q is not ahead of %q", l, set[i-1], set[i])
			}
		}
	})
}

// turned: the list from its end on.
func turned(l []string) []string {
	var out []string
	for _, s := range l {
		out = append([]string{s}, out...)
	}
	return out
}

func TestTheListsOrderAndWhatStandsTwiceAreNothing(t *testing.T) {
	listPairs(300, func(a, b []string) {
		twice := append(append([]string{}, a...), a...)
		for _, c := range setCalls() {
			want := c.call(a, b)
			isList(t, c.name+" of lists turned", c.call(turned(a), turned(b)), want)
			isList(t, c.name+" of a list twice", c.call(twice, b), want)
			isList(t, c.name+" of sets", c.call(names.Set(a), names.Set(b)), want)
			if c.name != "Minus" {
				isList(t, c.name+" of the second and the first", c.call(b, a), want)
			}
		}
	})
}

func TestMinusAndBothPartTheFirstList(t *testing.T) {
	listPairs(1000, func(a, b []string) {
		minus, both := names.Minus(a, b), names.Both(a, b)
		isList(t, "Union of Minus and Both", names.Union(minus, both), names.Set(a))
		isList(t, "Both of Minus and Both", names.Both(minus, both), nil)
	})
}

// P403

func TestCmpIsTheModels(t *testing.T) {
	for _, a := range edgeTexts() {
		for _, b := range edgeTexts() {
			if got := names.Cmp(a, b); got != order(a, b) {
				t.Errorf("Cmp of %q, %q: %d, not %d", a, b, got, order(a, b))
			}
		}
	}
}

func TestCmpIsTurnedAndIsZeroOfLikeTextsAlone(t *testing.T) {
	for _, a := range edgeTexts() {
		for _, b := range edgeTexts() {
			if names.Cmp(a, b) != -names.Cmp(b, a) {
				t.Errorf("Cmp of %q, %q: not turned", a, b)
			}
			if got := names.Cmp(a, b) == 0; got != (a == b) {
				t.Errorf("Cmp of %q, %q: 0 is %t", a, b, got)
			}
		}
	}
}

func TestCmpGoesOnThroughAThird(t *testing.T) {
	all := edgeTexts()
	for _, a := range all {
		for _, b := range all {
			for _, c := range all {
				if names.Cmp(a, b) < 0 && names.Cmp(b, c) < 0 && names.Cmp(a, c) != -1 {
					t.Errorf("Cmp of %q, %q, %q does not go on", a, b, c)
				}
			}
		}
	}
}

// Rule 4: what is handed in stays, its spare room too; what is handed out is new.

// roomy: l in the midst of a longer list, which it is told with.
func roomy(l []string) (whole, part []string) {
	whole = append(append([]string{"ahead"}, l...), "z", "a", "z")
	return whole, whole[1 : 1+len(l)]
}

// spoil writes into all that a list can reach.
func spoil(l []string) {
	room := l[:cap(l)]
	for i := range room {
		room[i] = "spoilt"
	}
}

func TestListsHandedInStayAsTheyWere(t *testing.T) {
	listPairs(300, func(a, b []string) {
		wholeA, partA := roomy(a)
		wholeB, partB := roomy(b)
		wasA, _ := roomy(a)
		wasB, _ := roomy(b)
		spoil(names.Set(partA))
		names.Find(partA, "z")
		for _, c := range setCalls() {
			spoil(c.call(partA, partB))
			isList(t, c.name+": the first list", wholeA, wasA)
			isList(t, c.name+": the second list", wholeB, wasB)
		}
	})
}

func TestListsThatShareMemoryWithEachOther(t *testing.T) {
	whole := []string{"c", "a", "b", "a", "d"}
	for _, c := range setCalls() {
		for from := range len(whole) {
			a, b := whole[:from], whole[from/2:]
			isList(t, c.name+" of lists that overlap", c.call(a, b), c.model(a, b))
		}
		isList(t, c.name+": the list", whole, []string{"c", "a", "b", "a", "d"})
	}
}

func TestListsHandedOutAreNew(t *testing.T) {
	listPairs(100, func(a, b []string) {
		for _, c := range setCalls() {
			want := c.model(a, b)
			spoil(c.call(a, b))
			isList(t, c.name+" once more", c.call(a, b), want)
		}
		want := setOf(a)
		spoil(names.Set(a))
		isList(t, "Set once more", names.Set(a), want)
	})
}

// The chapter's examples.

func TestExamplesOfSets(t *testing.T) {
	if names.Cmp("a", "ab") != -1 || names.Cmp("b", "ab") != 1 || names.Cmp("", "") != 0 {
		t.Error("Cmp is not as in the examples")
	}
	isList(t, "Set", names.Set([]string{"b", "a", "b"}), []string{"a", "b"})
	isList(t, "Union", names.Union([]string{"b"}, []string{"a", "b"}), []string{"a", "b"})
	isList(t, "Minus", names.Minus([]string{"a", "b", "a"}, []string{"b"}), []string{"a"})
	isList(t, "Both", names.Both([]string{"a", "b"}, []string{"b", "c"}), []string{"b"})
	isFound(t, []string{"x", "y", "y"}, "y", 1, true)
	isFound(t, nil, "", 0, false)
}
