package depgraph

import (
	"maps"
	"slices"

	"foundry/api"
)

// set: names that have been come to.
type set map[string]struct{}

func (s set) has(name string) bool {
	_, there := s[name]
	return there
}

// put: was the name not yet there?
func (s set) put(name string) bool {
	if s.has(name) {
		return false
	}
	s[name] = struct{}{}
	return true
}

// Ring: of the shortest rings through the least node that stands on one, the least; it begins with that node.
func (g *Graph) Ring() []string {
starts:
	for _, start := range g.Names() {
		met, round := set{}, [][]string{{start}}
		for {
			if at := slices.IndexFunc(round, g.closed); at >= 0 {
				return round[at]
			}
			round = g.longer(round, met)
			if len(round) == 0 {
				continue starts
			}
		}
	}
	return nil
}

// closed: does the path's last node import its first?
func (g *Graph) closed(path []string) bool {
	return slices.Contains(g.table()[path[len(path)-1]], path[0])
}

// longer: the paths with one name more, to names that were not yet met.
// The paths of a round are in order, and so are imports: the first path to a name is the least one, and no other need be gone on with.
func (g *Graph) longer(round [][]string, met set) [][]string {
	var next [][]string
	for _, path := range round {
		for _, name := range g.table()[path[len(path)-1]] {
			if met.put(name) {
				next = append(next, append(slices.Clone(path), name))
			}
		}
	}
	return next
}

// Order: the nodes, each behind all that it imports, the least first where several could stand next.
func (g *Graph) Order() ([]string, api.Errno) {
	if e := g.orderless(); e != api.OK {
		return nil, e
	}
	var order []string
	placed := set{}
	for left := g.Names(); len(left) > 0; {
		// There is no ring, so one of those that are left imports none of them.
		at := slices.IndexFunc(left, func(name string) bool { return g.allIn(name, placed) })
		placed.put(left[at])
		order = append(order, left[at])
		left = slices.Delete(left, at, at+1)
	}
	return order, api.OK
}

// orderless: why the nodes can't be put in order.
func (g *Graph) orderless() api.Errno {
	if g == nil {
		return api.ErrNil
	}
	if _, _, missing := g.Missing(); missing {
		return api.ErrImport
	}
	if len(g.Ring()) > 0 {
		return api.ErrCycle
	}
	return api.OK
}

func (g *Graph) allIn(name string, s set) bool {
	return !slices.ContainsFunc(g.table()[name], func(imported string) bool { return !s.has(imported) })
}

// Levels: the nodes that import nothing, then in each list those that import one of the list just ahead, and all others from lists ahead.
func (g *Graph) Levels() ([][]string, api.Errno) {
	if e := g.orderless(); e != api.OK {
		return nil, e
	}
	var levels [][]string
	placed := set{}
	for left := g.Names(); len(left) > 0; {
		var level, rest []string
		for _, name := range left {
			if g.allIn(name, placed) {
				level = append(level, name)
			} else {
				rest = append(rest, name)
			}
		}
		// Only now: a name of this list does not count for the others of it.
		for _, name := range level {
			placed.put(name)
		}
		levels, left = append(levels, level), rest
	}
	return levels, api.OK
}

// Under: all names that the node imports, directly or through others, in order.
func (g *Graph) Under(name string) []string {
	under := set{}
	for left := g.Imports(name); len(left) > 0; left = left[1:] {
		if under.put(left[0]) {
			left = append(left, g.table()[left[0]]...)
		}
	}
	return slices.Sorted(maps.Keys(under))
}

// Over: those of the names that are nodes, and the nodes that import one of the names, directly or through others, in order.
func (g *Graph) Over(names []string) []string {
	touched := set{}
	for _, name := range names {
		touched.put(name)
	}
	for grown := true; grown; {
		grown = false
		for _, node := range g.Names() {
			if slices.ContainsFunc(g.table()[node], touched.has) && touched.put(node) {
				grown = true
			}
		}
	}
	return slices.DeleteFunc(g.Names(), func(node string) bool { return !touched.has(node) })
}
