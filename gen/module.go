package gen

import (
	"cmp"
	"slices"

	"foundry/api"
	"foundry/check"
)

// place: in which module something is declared, and under which name.
type place struct{ mod, name string }

// module: what is known to each function of a module of all that is declared outside of it.
type module struct {
	name    string
	consts  map[place]api.Value
	results map[place]int // of functions; TNone of one without a result
}

// moduleOf: of a module that is right, with what check tells of it.
func moduleOf(m api.Module, l []api.Iface, info check.Info) *module {
	known := &module{name: m.Name, consts: map[place]api.Value{}, results: map[place]int{}}
	for _, c := range info.Consts {
		known.consts[known.at(c.Mod, c.Name)] = c.Value
	}
	for _, d := range m.Decls {
		if d.Kind == api.DFn {
			known.results[known.at("", d.Name)] = d.Type
		}
	}
	for _, mod := range m.Imports {
		for _, i := range given(mod, l).Items {
			if i.Kind == api.DFn {
				known.results[known.at(mod, i.Name)] = i.Type
			}
		}
	}
	return known
}

// at: the place of a name; without a module it is one of the own module.
func (m *module) at(mod, name string) place {
	return place{cmp.Or(mod, m.name), name}
}

// given: the interface of an import, which is there: check has asked for it.
func given(name string, l []api.Iface) api.Iface {
	return l[slices.IndexFunc(l, func(f api.Iface) bool { return f.Name == name })]
}
