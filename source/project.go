package source

import (
	"slices"

	"foundry/api"
	"foundry/check"
	"foundry/depgraph"
)

// mainName: of the module with which a run begins, and of its function.
const mainName = "main"

// inOrder: the modules, each behind all that it imports; none, if there is no such order.
func inOrder(l []api.Module) []api.Module {
	nodes := make([]depgraph.Node, len(l))
	byName := map[string]api.Module{}
	for at, m := range l {
		nodes[at] = depgraph.Node{Name: m.Name, Imports: m.Imports}
		byName[m.Name] = m
	}
	// With an error there is no graph, and a nil graph has no order.
	graph, _ := depgraph.New(nodes)
	names, _ := graph.Order()
	order := make([]api.Module, len(names))
	for at, name := range names {
		order[at] = byName[name]
	}
	return order
}

// checked: what check tells of each module, with the interfaces of those ahead of it; false, if it does not take one.
func checked(order []api.Module) ([]check.Info, bool) {
	var infos []check.Info
	var shown []api.Iface
	for _, m := range order {
		info, _, code := check.Check(m, shown)
		if code != api.OK {
			return nil, false
		}
		infos, shown = append(infos, info), append(shown, info.Iface)
	}
	return infos, true
}

func hasMain(m api.Module) bool {
	return m.Name == mainName && slices.ContainsFunc(m.Decls, isMain)
}

func isMain(d api.Decl) bool {
	return d.Kind == api.DFn && d.Name == mainName && d.Type == api.TInt && len(d.Params) == 0
}

// place: in which module something is declared, and under which name.
type place struct{ mod, name string }

// project: what the modules of a right project declare.
type project struct {
	consts map[place]api.Value
	varAt  map[place]int // which of vars
	vars   []api.Value
	fns    map[place]*function
}

// function: how many slots a call of it has, the parameters' first, and what it does.
type function struct {
	slots int
	body  action
}

func projectOf(order []api.Module, infos []check.Info) *project {
	p := &project{consts: map[place]api.Value{}, varAt: map[place]int{}, fns: map[place]*function{}}
	for at, m := range order {
		p.declare(m, infos[at])
	}
	// Bodies come behind all declarations, since they may name what stands further down.
	for _, m := range order {
		for _, d := range m.Decls {
			if d.Kind == api.DFn {
				p.fill(m.Name, d)
			}
		}
	}
	return p
}

// declare: all that the module declares, of its functions the names alone.
func (p *project) declare(m api.Module, info check.Info) {
	for _, c := range info.Consts {
		// Behind the module's own constants stand those of its imports, which are there already.
		if c.Mod == "" {
			p.consts[place{m.Name, c.Name}] = c.Value
		}
	}
	for _, v := range info.Vars {
		p.varAt[place{m.Name, v.Name}] = len(p.vars)
		p.vars = append(p.vars, v.Value)
	}
	for _, d := range m.Decls {
		if d.Kind == api.DFn {
			p.fns[place{m.Name, d.Name}] = &function{}
		}
	}
}

// fill: the function of that declaration has its body.
func (p *project) fill(mod string, d api.Decl) {
	b := &builder{project: p, mod: mod, slots: map[string]int{}}
	for _, param := range d.Params {
		b.give(param.Name)
	}
	fn := p.fns[place{mod, d.Name}]
	fn.body = b.block(d.Body)
	fn.slots = len(b.slots)
}
