package depgraph_test

import (
	"fmt"
	"slices"
	"testing"

	"foundry/api"
	"foundry/depgraph"
)

// refused fails unless New of the nodes has the error, and no graph.
func refused(t *testing.T, what string, l []depgraph.Node, code api.Errno) {
	t.Helper()
	g, got := depgraph.New(l)
	is(t, what, got, code)
	if g != nil {
		t.Errorf("%s: a graph", what)
	}
}

func node(name string, imports ...string) depgraph.Node {
	return depgraph.Node{Name: name, Imports: imports}
}

// P1101.
func TestNewOfNothing(t *testing.T) {
	for _, l := range [][]depgraph.Node{nil, {}} {
		g := made(t, l)
		for _, name := range []string{"a", ""} {
			toldNothing(t, g, name)
		}
		is(t, "Order", toldOrder(g), "|0")
		is(t, "Levels", toldLevels(g), "|0")
	}
}

func TestNewOfTooManyNodes(t *testing.T) {
	is(t, "MaxModules", api.MaxModules, 32)
	g := made(t, manyNodes(32))
	is(t, "Names", told(g.Names()), told(many("n", 32)))
	is(t, "Order", toldOrder(g), told(many("n", 32))+"|0")
	for _, n := range []int{33, 34, 64, 1000} {
		refused(t, fmt.Sprint(n), manyNodes(n), api.ErrBig)
	}
	refused(t, "33 of one name", slices.Repeat(nodes("a"), 33), api.ErrBig)
	refused(t, "33 without names", make([]depgraph.Node, 33), api.ErrBig)
}

func TestNewOfTooManyImports(t *testing.T) {
	is(t, "MaxImports", api.MaxImports, 16)
	g := made(t, []depgraph.Node{node("a", many("i", 16)...)})
	is(t, "Imports", told(g.Imports("a")), told(many("i", 16)))
	for _, n := range []int{17, 18, 32, 1000} {
		refused(t, fmt.Sprint(n), []depgraph.Node{node("a", many("i", n)...)}, api.ErrBig)
		refused(t, fmt.Sprint(n, " of the last one"), append(manyNodes(31), node("z", many("i", n)...)), api.ErrBig)
	}
	full := nodes("a b")
	full[0].Imports, full[1].Imports = many("i", 16), many("j", 16)
	is(t, "two that are full", len(made(t, full).Over(append(many("i", 16), many("j", 16)...))), 2)
}

// The limit is on the list Imports as it is handed in, like tree.Right's.
func TestNewOfTooManyImportsOfWhichSomeStandTwice(t *testing.T) {
	is(t, "16 of one", told(made(t, []depgraph.Node{node("a", slices.Repeat([]string{"b"}, 16)...)}).Imports("a")), "b")
	refused(t, "17 of one", []depgraph.Node{node("a", slices.Repeat([]string{"b"}, 17)...)}, api.ErrBig)
}

// noNames: texts for which names.Right has an error, of either kind.
func noNames() []string {
	return []string{"", "9", "9a", "a.b", "a b", "é", "a\x00", "while", "int", "nan", "module", long(33), long(1000)}
}

func TestNewOfNoNames(t *testing.T) {
	for _, s := range noNames() {
		refused(t, fmt.Sprintf("a node %q", s), []depgraph.Node{node(s)}, api.ErrName)
		refused(t, fmt.Sprintf("a last node %q", s), append(nodes("a:b b"), node(s, "a")), api.ErrName)
		refused(t, fmt.Sprintf("an import %q", s), []depgraph.Node{node("a", s)}, api.ErrName)
		refused(t, fmt.Sprintf("a last import %q", s), []depgraph.Node{node("b"), node("a", "b", "c", s)}, api.ErrName)
		refused(t, fmt.Sprintf("both %q", s), []depgraph.Node{node(s, s)}, api.ErrName)
	}
	for _, s := range []string{"a", "_", "Z9", "While", "main", long(32)} {
		is(t, s, told(made(t, []depgraph.Node{node(s, s)}).Ring()), s)
	}
}

func TestNewOfTwoNodesOfOneName(t *testing.T) {
	for _, text := range []string{"a a", "a:b a:b", "a:b a:c", "a b a", "b a c a", "c b a a", "a:a a:a", "z:a b c:z z"} {
		refused(t, text, nodes(text), api.ErrTwice)
	}
	refused(t, "32 of one name", slices.Repeat(nodes("a"), 32), api.ErrTwice)
	is(t, "unlike names", told(graph(t, "a A aa _a a_").Names()), "A _a a a_ aa")
}

// Of several errors the one that the chapter names first, wherever they stand.
func TestNewTellsTheFirstError(t *testing.T) {
	crowd, wrong, far, twice := node("a", many("i", 17)...), node("9"), node("b", long(33)), node("c")
	for _, c := range []struct {
		what string
		l    []depgraph.Node
		code api.Errno
	}{
		{"all", []depgraph.Node{twice, twice, wrong, far, crowd}, api.ErrBig},
		{"a crowd that has no name", []depgraph.Node{twice, twice, node("", many("i", 17)...)}, api.ErrBig},
		{"a crowd of no names", []depgraph.Node{node("a", make([]string, 17)...)}, api.ErrBig},
		{"too many, one twice, one wrong", append(manyNodes(31), wrong, far, twice, twice), api.ErrBig},
		{"twice, then wrong", []depgraph.Node{twice, twice, wrong}, api.ErrName},
		{"twice, then a wrong import", []depgraph.Node{twice, twice, far}, api.ErrName},
		{"twice, of no name", []depgraph.Node{wrong, wrong}, api.ErrName},
		{"twice, the second one with a wrong import", []depgraph.Node{node("a"), node("a", "if")}, api.ErrName},
		{"twice alone", []depgraph.Node{twice, node("a", "none"), twice}, api.ErrTwice},
	} {
		refused(t, c.what, c.l, c.code)
		slices.Reverse(c.l)
		refused(t, c.what+", turned round", c.l, c.code)
	}
}

// newCode: the error by the chapter's words, one after the other.
func newCode(l []depgraph.Node, right func(string) bool) api.Errno {
	big, wrong, twice := len(l) > 32, false, false
	for at, n := range l {
		big = big || len(n.Imports) > 16
		wrong = wrong || !right(n.Name)
		for _, name := range n.Imports {
			wrong = wrong || !right(name)
		}
		for _, other := range l[:at] {
			twice = twice || other.Name == n.Name
		}
	}
	switch {
	case big:
		return api.ErrBig
	case wrong:
		return api.ErrName
	case twice:
		return api.ErrTwice
	}
	return api.OK
}

func TestNewAgainstTheModel(t *testing.T) {
	x := mixer(3)
	seen := map[api.Errno]int{}
	for range 20000 {
		l := x.nodes(6, 4)
		if len(l) > 0 {
			n := &l[x.below(len(l))]
			switch x.below(12) {
			case 0:
				n.Name = pick(&x, noNames())
			case 1:
				n.Imports = append(n.Imports, pick(&x, noNames()))
			case 2:
				n.Imports = append(n.Imports, many("i", 11+x.below(4))...)
			case 3, 4:
				n.Name = pick(&x, l).Name
			case 5:
				l = append(l, manyNodes(25+x.below(6))...)
			case 6:
				l = append(l, node(pick(&x, append(noNames(), pool()...)), slices.Repeat([]string{pick(&x, append(noNames(), "a"))}, 14+x.below(5))...))
			}
		}
		shuffle(&x, l)
		want := newCode(l, func(s string) bool { return !slices.Contains(noNames(), s) })
		g, code := depgraph.New(l)
		is(t, fmt.Sprint(l), code, want)
		is(t, fmt.Sprint(l, ": a graph"), g != nil, want == api.OK)
		seen[code]++
	}
	for _, code := range []api.Errno{api.OK, api.ErrBig, api.ErrName, api.ErrTwice} {
		if seen[code] < 500 {
			t.Errorf("%v came only %d times", code, seen[code])
		}
	}
}

func TestNewOfImportsThatStandTwice(t *testing.T) {
	once, twice := graph(t, "a:b,c b:c c"), graph(t, "a:c,b,c,b,b b:c,c c")
	is(t, "Imports", told(twice.Imports("a")), "b c")
	is(t, "Users", told(twice.Users("c")), "a b")
	is(t, "all", toldAll(twice, pool()), toldAll(once, pool()))
	is(t, "Ring", told(graph(t, "a:a,a").Ring()), "a")
}

// The lists are copied, and are as they were, spare room too.
func TestNewLeavesWhatIsHandedInAndKeepsNoneOfIt(t *testing.T) {
	x := mixer(4)
	for range 2000 {
		l := roomy(x.nodes(6, 4))
		key := nodesKey(l)
		g := made(t, l)
		is(t, "handed in", nodesKey(l), key)
		all := toldAll(g, pool())
		for at := range l[:cap(l)] {
			scribble(l[:cap(l)][at].Imports)
			l[:cap(l)][at] = node("scribble", "scribble")
		}
		is(t, "told", toldAll(g, pool()), all)
	}
	wrong := roomy([]depgraph.Node{node("b", "c", "a"), node("a", "z", "b", "z"), node("a", "b")})
	key := nodesKey(wrong)
	refused(t, "twice", wrong, api.ErrTwice)
	is(t, "handed in", nodesKey(wrong), key)
}

// Two graphs share nothing.
func TestGraphsStandByThemselves(t *testing.T) {
	l := nodes("a:b,c b:c c")
	first := made(t, l)
	l[2].Imports = []string{"a"}
	second := made(t, l)
	is(t, "first", toldOrder(first), "c b a|0")
	is(t, "second", told(second.Ring()), "a c")
	is(t, "first again", toldOrder(first), "c b a|0")
}
