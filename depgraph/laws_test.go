package depgraph_test

import (
	"fmt"
	"slices"
	"sync"
	"testing"

	"foundry/api"
	"foundry/depgraph"
)

// graphs: many nodes with their graphs, each as the test asks for it: with rings and missing names, and without.
func graphs(t *testing.T, seed mixer, each func(x *mixer, l []depgraph.Node, g *depgraph.Graph)) {
	t.Helper()
	for range 800 {
		l := seed.nodes(9, 4)
		each(&seed, l, made(t, l))
		l = seed.downhill(9, 4)
		each(&seed, l, made(t, l))
	}
}

// P1108.
func TestUsersAndImportsAreTurnedRound(t *testing.T) {
	graphs(t, 11, func(_ *mixer, l []depgraph.Node, g *depgraph.Graph) {
		for _, a := range strange() {
			for _, b := range strange() {
				is(t, fmt.Sprint(l, a, b), slices.Contains(g.Users(b), a), slices.Contains(g.Imports(a), b))
			}
		}
	})
}

func TestOverAndUnderAreTurnedRound(t *testing.T) {
	graphs(t, 12, func(_ *mixer, l []depgraph.Node, g *depgraph.Graph) {
		for _, a := range g.Names() {
			over := g.Over([]string{a})
			is(t, fmt.Sprint(l, a), slices.Contains(over, a), true)
			for _, b := range strange() {
				if a != b {
					is(t, fmt.Sprint(l, a, b), slices.Contains(over, b), slices.Contains(g.Under(b), a))
				}
			}
		}
	})
}

func TestOverOfSeveralIsThatOfEach(t *testing.T) {
	graphs(t, 13, func(x *mixer, l []depgraph.Node, g *depgraph.Graph) {
		var given, want []string
		for range x.below(5) {
			name := pick(x, strange())
			given, want = append(given, name), append(want, g.Over([]string{name})...)
		}
		slices.Sort(want)
		is(t, fmt.Sprint(l, given), told(g.Over(given)), told(slices.Compact(want)))
	})
}

func TestNothingHangsOnTheOrderOfNodesAndImports(t *testing.T) {
	graphs(t, 14, func(x *mixer, l []depgraph.Node, g *depgraph.Graph) {
		other := x.another(l)
		is(t, fmt.Sprint(l, other), toldAll(made(t, other), strange()), toldAll(g, strange()))
	})
}

func TestOrderHasEveryNodeOnceBehindItsImports(t *testing.T) {
	n := 0
	graphs(t, 15, func(_ *mixer, l []depgraph.Node, g *depgraph.Graph) {
		order, code := g.Order()
		if code != api.OK {
			is(t, "with an error", len(order), 0)
			return
		}
		n++
		is(t, fmt.Sprint(l), told(slices.Sorted(slices.Values(order))), told(g.Names()))
		for at, name := range order {
			for _, imported := range g.Imports(name) {
				is(t, fmt.Sprint(l, name, imported), slices.Contains(order[:at], imported), true)
			}
		}
	})
	if n < 800 {
		t.Errorf("only %d orders", n)
	}
}

func TestALevelIsOneMoreThanTheGreatestOfTheImports(t *testing.T) {
	n := 0
	graphs(t, 16, func(_ *mixer, l []depgraph.Node, g *depgraph.Graph) {
		levels, code := g.Levels()
		_, other := g.Order()
		is(t, "error", code, other)
		if code != api.OK {
			is(t, "with an error", len(levels), 0)
			return
		}
		n++
		is(t, fmt.Sprint(l), told(slices.Sorted(slices.Values(slices.Concat(levels...)))), told(g.Names()))
		at := map[string]int{}
		for deep, level := range levels {
			is(t, "in order", slices.IsSorted(level), true)
			for _, name := range level {
				at[name] = deep
			}
		}
		for _, name := range g.Names() {
			most := -1
			for _, imported := range g.Imports(name) {
				most = max(most, at[imported])
			}
			is(t, fmt.Sprint(l, name), at[name], most+1)
		}
	})
	if n < 800 {
		t.Errorf("only %d times levels", n)
	}
}

// A ring is one, and no node that is less stands on any.
func TestRingIsARing(t *testing.T) {
	n := 0
	graphs(t, 17, func(_ *mixer, l []depgraph.Node, g *depgraph.Graph) {
		ring := g.Ring()
		on := func(name string) bool { return slices.Contains(g.Under(name), name) }
		is(t, fmt.Sprint(l), len(ring) > 0, slices.ContainsFunc(g.Names(), on))
		for at, name := range ring {
			is(t, fmt.Sprint(l, ring), slices.Contains(g.Imports(name), ring[(at+1)%len(ring)]), true)
		}
		if len(ring) > 0 {
			n++
			is(t, fmt.Sprint(l), ring[0], g.Names()[slices.IndexFunc(g.Names(), on)])
		}
	})
	if n < 300 {
		t.Errorf("only %d rings", n)
	}
}

// What is handed out is new memory: nobody sees what is written into it.
func TestWhatIsHandedOutIsNew(t *testing.T) {
	graphs(t, 18, func(_ *mixer, l []depgraph.Node, g *depgraph.Graph) {
		all, key := toldAll(g, pool()), nodesKey(l)
		for _, list := range handedOut(g, pool()) {
			scribble(list)
		}
		is(t, fmt.Sprint(l), toldAll(g, pool()), all)
		is(t, "handed in", nodesKey(l), key)
	})
}

// No two lists that are handed out share memory, the lists of one answer neither.
func TestListsStandByThemselves(t *testing.T) {
	graphs(t, 19, func(_ *mixer, l []depgraph.Node, g *depgraph.Graph) {
		lists := handedOut(g, pool())
		for at, list := range lists {
			list = list[:cap(list)]
			for k := range list {
				list[k] = fmt.Sprint(at, k)
			}
		}
		for at, list := range lists {
			for k, got := range list[:cap(list)] {
				if got != fmt.Sprint(at, k) {
					t.Fatalf("%v: list %d stands where another one does", l, at)
				}
			}
		}
	})
}

// Asked again a graph tells the same, and those who ask at one time do not disturb each other.
func TestLooksChangeNothing(t *testing.T) {
	x := mixer(20)
	for range 100 {
		g := made(t, x.nodes(9, 4))
		all := toldAll(g, strange())
		var wait sync.WaitGroup
		got := make([]string, 4)
		for at := range got {
			wait.Go(func() { got[at] = toldAll(g, strange()) })
		}
		wait.Wait()
		for _, s := range got {
			is(t, "told again", s, all)
		}
	}
}
