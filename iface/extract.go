package iface

import (
	"slices"

	"foundry/api"
	"foundry/fold"
	"foundry/names"
	"foundry/tree"
	"foundry/types"
)

// Extract: the interface of the module, whose imports are given by l; or the first error, and the number of the declaration that has it (0, if none has).
func Extract(m api.Module, l []api.Iface) (api.Iface, int, api.Errno) {
	if e := tree.Right(m); e != api.OK {
		return api.Iface{}, 0, e
	}
	given, all := imported(m.Imports, l)
	if !all {
		return api.Iface{}, 0, api.ErrImport
	}
	consts, _, at, e := fold.Decls(m, fold.Far(given))
	if e != api.OK {
		return api.Iface{}, at, e
	}
	return api.Iface{Name: m.Name, Items: shown(m.Decls, consts)}, 0, api.OK
}

// imported: the interfaces of the imports, each once, in their order; false, if one is not given or is not right.
func imported(imports []string, l []api.Iface) ([]api.Iface, bool) {
	var given []api.Iface
	for at, name := range imports {
		if _, twice := names.Find(imports[:at], name); twice {
			continue
		}
		// Where the first one of that name is not right, a later one does not stand in for it.
		first := slices.IndexFunc(l, func(f api.Iface) bool { return f.Name == name })
		if first < 0 || types.RightIface(l[first]) != api.OK {
			return nil, false
		}
		given = append(given, l[first])
	}
	return given, true
}

// shown: the items of the declarations that are exported, in the order of their names. The values are those of all constants, in the order of the declarations.
func shown(decls []api.Decl, consts []fold.Const) []api.Item {
	var items []api.Item
	next := 0
	for _, d := range decls {
		item := api.Item{Kind: d.Kind, Name: d.Name, Type: d.Type, Params: paramTypes(d.Params)}
		if d.Kind == api.DConst {
			item.Bits = consts[next].Value.Bits
			next++
		}
		if d.Export {
			items = append(items, item)
		}
	}
	slices.SortFunc(items, func(a, b api.Item) int { return names.Cmp(a.Name, b.Name) })
	return items
}

func paramTypes(params []api.Param) []int {
	var list []int
	for _, p := range params {
		list = append(list, p.Type)
	}
	return list
}
