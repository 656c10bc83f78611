package depgraph_test

import (
	"fmt"
	"slices"
	"sort"
	"strings"
	"testing"

	"foundry/api"
	"foundry/depgraph"
)

// model: nodes held as a table of who imports whom, and what the chapter's words make of it by trying everything.
type model struct {
	names []string       // of the nodes and of what they import, in order
	node  []bool         // which of them are nodes
	edge  [][]bool       // who imports whom
	far   [][]bool       // directly or through others
	at    map[string]int // where a name stands
}

func modelOf(l []depgraph.Node) *model {
	m := &model{at: map[string]int{}}
	for _, n := range l {
		m.add(n.Name)
		for _, name := range n.Imports {
			m.add(name)
		}
	}
	sort.Strings(m.names)
	for at, name := range m.names {
		m.at[name] = at
		m.node = append(m.node, false)
		m.edge = append(m.edge, make([]bool, len(m.names)))
		m.far = append(m.far, make([]bool, len(m.names)))
	}
	for _, n := range l {
		m.node[m.at[n.Name]] = true
		for _, name := range n.Imports {
			m.edge[m.at[n.Name]][m.at[name]] = true
			m.far[m.at[n.Name]][m.at[name]] = true
		}
	}
	for k := range m.names {
		for a := range m.names {
			for b := range m.names {
				m.far[a][b] = m.far[a][b] || m.far[a][k] && m.far[k][b]
			}
		}
	}
	return m
}

func (m *model) add(name string) {
	if _, there := m.at[name]; !there {
		m.at[name] = 0
		m.names = append(m.names, name)
	}
}

// those: the names of which that holds, in order.
func (m *model) those(holds func(at int) bool) string {
	var l []string
	for at, name := range m.names {
		if holds(at) {
			l = append(l, name)
		}
	}
	return told(l)
}

func (m *model) nodes() string {
	return m.those(func(at int) bool { return m.node[at] })
}

func (m *model) imports(name string) string {
	from, there := m.at[name]
	return m.those(func(at int) bool { return there && m.edge[from][at] })
}

func (m *model) users(name string) string {
	to, there := m.at[name]
	return m.those(func(at int) bool { return there && m.edge[at][to] })
}

func (m *model) under(name string) string {
	from, there := m.at[name]
	return m.those(func(at int) bool { return there && m.far[from][at] })
}

func (m *model) over(given []string) string {
	return m.those(func(at int) bool {
		return m.node[at] && slices.ContainsFunc(given, func(name string) bool {
			to, there := m.at[name]
			return there && (at == to || m.far[at][to])
		})
	})
}

func (m *model) missing() string {
	for from, node := range m.names {
		for to, name := range m.names {
			if m.edge[from][to] && !m.node[to] {
				return fmt.Sprintf("%q %q true", node, name)
			}
		}
	}
	return `"" "" false`
}

// ring: of all rings there are, the one that is to be told.
func (m *model) ring() []string {
	var all [][]int
	var walk func(path []int)
	walk = func(path []int) {
		last := path[len(path)-1]
		if m.edge[last][path[0]] {
			all = append(all, slices.Clone(path))
		}
		for next := range m.names {
			if m.edge[last][next] && !slices.Contains(path, next) {
				walk(append(slices.Clone(path), next))
			}
		}
	}
	for start := range m.names {
		walk([]int{start})
	}
	if len(all) == 0 {
		return nil
	}
	slices.SortFunc(all, func(a, b []int) int {
		if a[0] != b[0] {
			return a[0] - b[0]
		}
		if len(a) != len(b) {
			return len(a) - len(b)
		}
		return slices.Compare(a, b)
	})
	var l []string
	for _, at := range all[0] {
		l = append(l, m.names[at])
	}
	return l
}

func (m *model) code() api.Errno {
	if m.missing() != `"" "" false` {
		return api.ErrImport
	}
	if m.ring() != nil {
		return api.ErrCycle
	}
	return api.OK
}

// order: of all lists of the nodes in which each stands behind its imports, the least. (A node that could stand ahead of another one may always be the next.)
func (m *model) order() string {
	if code := m.code(); code != api.OK {
		return fmt.Sprint("|", int(code))
	}
	var found []string
	var fill func(placed []int) bool
	fill = func(placed []int) bool {
		if len(placed) == len(m.names) {
			for _, at := range placed {
				found = append(found, m.names[at])
			}
			return true
		}
		for next := range m.names {
			if !slices.Contains(placed, next) && m.behindAll(next, placed) && fill(append(slices.Clone(placed), next)) {
				return true
			}
		}
		return false
	}
	if !fill(nil) {
		return "no order"
	}
	return fmt.Sprint(told(found), "|0")
}

func (m *model) behindAll(next int, placed []int) bool {
	for to := range m.names {
		if m.edge[next][to] && !slices.Contains(placed, to) {
			return false
		}
	}
	return true
}

// depth: how many nodes the longest way down from a node has.
func (m *model) depth(from int) int {
	most := 0
	for to := range m.names {
		if m.edge[from][to] {
			most = max(most, m.depth(to))
		}
	}
	return most + 1
}

func (m *model) levels() string {
	if code := m.code(); code != api.OK {
		return fmt.Sprint("|", int(code))
	}
	var s []string
	for deep := 1; ; deep++ {
		level := m.those(func(at int) bool { return m.depth(at) == deep })
		if level == "" {
			return fmt.Sprint(strings.Join(s, " "), "|0")
		}
		s = append(s, "("+level+")")
	}
}

// held: all that the graph tells is what the model says.
func held(t *testing.T, l []depgraph.Node, asked []string) {
	t.Helper()
	g, m := made(t, l), modelOf(l)
	what := fmt.Sprint(l)
	is(t, what+": Names", told(g.Names()), m.nodes())
	is(t, what+": Missing", toldMissing(g), m.missing())
	is(t, what+": Ring", told(g.Ring()), told(m.ring()))
	is(t, what+": Order", toldOrder(g), m.order())
	is(t, what+": Levels", toldLevels(g), m.levels())
	is(t, what+": Over of nothing", told(g.Over(nil)), "")
	is(t, what+": Over of all", told(g.Over(asked)), m.over(asked))
	for at, name := range asked {
		is(t, what+": Imports of "+name, told(g.Imports(name)), m.imports(name))
		is(t, what+": Users of "+name, told(g.Users(name)), m.users(name))
		is(t, what+": Under of "+name, told(g.Under(name)), m.under(name))
		is(t, what+": Over of "+name, told(g.Over([]string{name})), m.over([]string{name}))
		two := []string{name, asked[(at+3)%len(asked)]}
		is(t, what+": Over of "+told(two), told(g.Over(two)), m.over(two))
	}
}

// strange: names that no node has.
func strange() []string {
	return append(pool(), "none", "", "9", "while", "a.b", long(33))
}

func TestGraphsAgainstTheModel(t *testing.T) {
	x := mixer(1)
	seen := map[string]int{}
	for at := range 8000 {
		l := x.nodes(6, 3)
		if at%4 == 0 {
			l = x.ringed()
		}
		held(t, l, strange())
		m := modelOf(l)
		seen[m.code().Error()]++
		seen[fmt.Sprint("ring of ", len(m.ring()))]++
	}
	for _, what := range []string{api.ErrImport.Error(), api.ErrCycle.Error(), api.OK.Error(), "ring of 0", "ring of 1", "ring of 2", "ring of 3", "ring of 4", "ring of 5"} {
		if seen[what] < 50 {
			t.Errorf("%s came only %d times", what, seen[what])
		}
	}
}

func TestGraphsWithoutRingsAgainstTheModel(t *testing.T) {
	x := mixer(2)
	deep := map[int]int{}
	for range 6000 {
		l := x.downhill(7, 3)
		held(t, l, strange())
		levels, code := made(t, l).Levels()
		is(t, "error", code, api.OK)
		deep[len(levels)]++
	}
	for n := range 7 {
		if deep[n] < 30 {
			t.Errorf("%d levels came only %d times", n, deep[n])
		}
	}
}

// All graphs of up to three nodes, each importing any of these and of one that is missing.
func TestAllSmallGraphsAgainstTheModel(t *testing.T) {
	names := []string{"a", "b", "c", "z"}
	for n := range 4 {
		for bits := range 1 << (4 * n) {
			var l []depgraph.Node
			for at := range n {
				node := depgraph.Node{Name: names[at]}
				for to, name := range names {
					if bits>>(4*at+to)&1 == 1 {
						node.Imports = append(node.Imports, name)
					}
				}
				l = append(l, node)
			}
			held(t, l, names)
		}
	}
}
