package depgraph_test

import (
	"fmt"
	"slices"
	"strings"
	"testing"

	"foundry/api"
	"foundry/depgraph"
)

// is fails unless got is what it has to be.
func is[T comparable](t *testing.T, what string, got, want T) {
	t.Helper()
	if got != want {
		t.Errorf("%s: %v, not %v", what, got, want)
	}
}

// nodes: the nodes of a text such as "a:b,c b:c c".
func nodes(text string) []depgraph.Node {
	var l []depgraph.Node
	for _, word := range strings.Fields(text) {
		name, imports, some := strings.Cut(word, ":")
		n := depgraph.Node{Name: name}
		if some {
			n.Imports = strings.Split(imports, ",")
		}
		l = append(l, n)
	}
	return l
}

// made: the graph of nodes that are right.
func made(t *testing.T, l []depgraph.Node) *depgraph.Graph {
	t.Helper()
	g, code := depgraph.New(l)
	if code != api.OK || g == nil {
		t.Fatalf("New of %v: %v, %v", l, g, code)
	}
	return g
}

// graph: the graph of a text.
func graph(t *testing.T, text string) *depgraph.Graph {
	t.Helper()
	return made(t, nodes(text))
}

// told: the names of a list.
func told(l []string) string {
	return strings.Join(l, " ")
}

// toldOrder: what Order answers.
func toldOrder(g *depgraph.Graph) string {
	l, code := g.Order()
	return fmt.Sprint(told(l), "|", int(code))
}

// toldLevels: what Levels answers.
func toldLevels(g *depgraph.Graph) string {
	l, code := g.Levels()
	return fmt.Sprint(toldLists(l), "|", int(code))
}

func toldLists(l [][]string) string {
	var s []string
	for _, level := range l {
		s = append(s, "("+told(level)+")")
	}
	return strings.Join(s, " ")
}

// toldMissing: what Missing answers.
func toldMissing(g *depgraph.Graph) string {
	node, name, found := g.Missing()
	return fmt.Sprintf("%q %q %v", node, name, found)
}

// toldAll: all that a graph tells that is asked of the names, one by one and, in Over, in pairs.
func toldAll(g *depgraph.Graph, asked []string) string {
	s := fmt.Sprintln(told(g.Names())) + fmt.Sprintln(toldMissing(g)) + fmt.Sprintln("ring", told(g.Ring())) + fmt.Sprintln(toldOrder(g)) + fmt.Sprintln(toldLevels(g)) + fmt.Sprintln(told(g.Over(nil)))
	for at, name := range asked {
		s += fmt.Sprintln(name, "imports", told(g.Imports(name)), "users", told(g.Users(name)), "under", told(g.Under(name)), "over", told(g.Over([]string{name})))
		s += fmt.Sprintln(told(g.Over([]string{name, asked[(at+1)%len(asked)]})))
	}
	return s
}

// handedOut: each list that a graph hands out of the names, all of them by themselves.
func handedOut(g *depgraph.Graph, asked []string) [][]string {
	order, _ := g.Order()
	levels, _ := g.Levels()
	l := append([][]string{g.Names(), g.Ring(), order, g.Over(asked)}, levels...)
	for _, name := range asked {
		l = append(l, g.Imports(name), g.Users(name), g.Under(name), g.Over([]string{name}))
	}
	return l
}

// long: a text of n letters.
func long(n int) string {
	return strings.Repeat("a", n)
}

// many: n names, in order.
func many(head string, n int) []string {
	var l []string
	for at := range n {
		l = append(l, fmt.Sprintf("%s%04d", head, at))
	}
	return l
}

// manyNodes: n nodes without imports.
func manyNodes(n int) []depgraph.Node {
	var l []depgraph.Node
	for _, name := range many("n", n) {
		l = append(l, depgraph.Node{Name: name})
	}
	return l
}

// spared: the list by itself, with something in its spare room.
func spared[T any](l []T, spare T) []T {
	c := append(make([]T, 0, len(l)+2), l...)
	return append(c, spare, spare)[:len(l)]
}

func roomy(l []depgraph.Node) []depgraph.Node {
	l = spared(l, depgraph.Node{Name: "spare", Imports: []string{"spare"}})
	for at := range l {
		l[at].Imports = spared(l[at].Imports, "spare")
	}
	return l
}

// nodesKey: all that the nodes have, what stands in the spare room too.
func nodesKey(l []depgraph.Node) string {
	key := fmt.Sprint(len(l))
	for _, n := range l[:cap(l)] {
		key += fmt.Sprintf("\n%q %d %q", n.Name, len(n.Imports), n.Imports[:cap(n.Imports)])
	}
	return key
}

// scribble writes over all that the list has, spare room too.
func scribble(l []string) {
	l = l[:cap(l)]
	for at := range l {
		l[at] = "scribble"
	}
}

// mixer: numbers without a pattern, the same ones each time.
type mixer uint64

func (x *mixer) next() uint64 {
	*x += 0x9e3779b97f4a7c15
	z := uint64(*x)
	z = (z ^ z>>30) * 0xbf58476d1ce4e5b9
	z = (z ^ z>>27) * 0x94d049bb133111eb
	return z ^ z>>31
}

func (x *mixer) below(n int) int {
	return int(x.next() % uint64(n))
}

func pick[T any](x *mixer, l []T) T {
	return l[x.below(len(l))]
}

// shuffle puts the list into another order, in place.
func shuffle[T any](x *mixer, l []T) {
	for at := range l {
		other := at + x.below(len(l)-at)
		l[at], l[other] = l[other], l[at]
	}
}

// pool: names in whose order capitals, digits and beginnings matter.
func pool() []string {
	return []string{"B", "Z", "_", "a", "a0", "aB", "aa", "b", "c"}
}

// nodes: up to most nodes, with up to as many imports each; some are missing, some stand twice.
func (x *mixer) nodes(most, imports int) []depgraph.Node {
	used := pool()
	shuffle(x, used)
	n := x.below(most + 1)
	from := used[:min(len(used), max(1, n+x.below(3)-1))]
	var l []depgraph.Node
	for _, name := range used[:n] {
		node := depgraph.Node{Name: name}
		for range x.below(imports + 1) {
			node.Imports = append(node.Imports, pick(x, from))
		}
		l = append(l, node)
	}
	return l
}

// ringed: nodes that stand on a ring, with a few imports across it, so that its ways round are of like lengths.
func (x *mixer) ringed() []depgraph.Node {
	used := pool()
	shuffle(x, used)
	used = used[:3+x.below(5)]
	var l []depgraph.Node
	for at, name := range used {
		l = append(l, depgraph.Node{Name: name, Imports: []string{used[(at+1)%len(used)]}})
		if x.below(3) == 0 {
			l[at].Imports = append(l[at].Imports, used[(at+2)%len(used)])
		}
	}
	if x.below(3) == 0 {
		l = append(l, depgraph.Node{Name: "A", Imports: used[:1]})
	}
	shuffle(x, l)
	return l
}

// downhill: nodes that import only such as stand behind them in a list of no order, so that there is no ring.
func (x *mixer) downhill(most, imports int) []depgraph.Node {
	used := pool()
	shuffle(x, used)
	used = used[:x.below(most+1)]
	var l []depgraph.Node
	for at, name := range used {
		node := depgraph.Node{Name: name}
		for range x.below(imports + 1) {
			if rest := used[at+1:]; len(rest) > 0 {
				node.Imports = append(node.Imports, pick(x, rest))
			}
		}
		l = append(l, node)
	}
	shuffle(x, l)
	return l
}

// another: the same nodes and imports in another order, some imports twice.
func (x *mixer) another(l []depgraph.Node) []depgraph.Node {
	l = slices.Clone(l)
	shuffle(x, l)
	for at := range l {
		l[at].Imports = slices.Clone(l[at].Imports)
		if len(l[at].Imports) > 0 && x.below(3) == 0 {
			l[at].Imports = append(l[at].Imports, pick(x, l[at].Imports))
		}
		shuffle(x, l[at].Imports)
	}
	return l
}
