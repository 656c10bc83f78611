package check

import (
	"slices"

	"foundry/api"
)

// module: what is asked of a module by all that stands in it.
type module struct {
	outer map[string]api.Item  // what its outer names stand for; an import is of no kind
	far   map[string]api.Iface // what its imports show
}

// moduleOf: of a module whose outer names are unlike, with the interfaces of its imports.
func moduleOf(m api.Module, given []api.Iface) module {
	made := module{outer: map[string]api.Item{}, far: map[string]api.Iface{}}
	for _, f := range given {
		made.outer[f.Name] = api.Item{Name: f.Name}
		made.far[f.Name] = f
	}
	for _, d := range m.Decls {
		item := api.Item{Kind: d.Kind, Name: d.Name, Type: d.Type}
		for _, p := range d.Params {
			item.Params = append(item.Params, p.Type)
		}
		made.outer[d.Name] = item
	}
	return made
}

// imported: the interfaces of the imports, in their order. Each of them is given: it is asked ahead of this.
func imported(imports []string, l []api.Iface) []api.Iface {
	var given []api.Iface
	for _, name := range imports {
		first := slices.IndexFunc(l, func(f api.Iface) bool { return f.Name == name })
		given = append(given, l[first])
	}
	return given
}
