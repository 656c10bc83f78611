package fold

import "foundry/api"

// Decls: the values of the module's constants, and those of its variables at first; or the number of the first declaration that is wrong, and its error.
func Decls(m api.Module, far []Const) ([]Const, []Const, int, api.Errno) {
	var consts, vars []Const
	seen := make(map[string]struct{}, len(m.Decls))
	// The module's own constants are put ahead of far one by one, the later ones ahead of the earlier: no two have one name, so that this order changes nothing.
	first := len(m.Decls)
	known := append(make([]Const, first, first+len(far)), far...)
	for at, d := range m.Decls {
		if _, twice := seen[d.Name]; twice {
			return nil, nil, at, api.ErrTwice
		}
		seen[d.Name] = struct{}{}
		if d.Kind != api.DConst && d.Kind != api.DVar {
			continue
		}
		v, e := valueAtFirst(d, known[first:])
		if e != api.OK {
			return nil, nil, at, e
		}
		c := Const{Name: d.Name, Value: v}
		if d.Kind == api.DVar {
			vars = append(vars, c)
			continue
		}
		consts = append(consts, c)
		first--
		known[first] = c
	}
	return consts, vars, 0, api.OK
}

// valueAtFirst: the value of a constant, or of a variable before anything is done.
func valueAtFirst(d api.Decl, known []Const) (api.Value, api.Errno) {
	if len(d.E) != 1 {
		return api.Value{}, api.ErrType
	}
	v, e := Eval(d.E[0], known)
	switch {
	case e != api.OK:
		return api.Value{}, e
	case v.Type != d.Type:
		return api.Value{}, api.ErrType
	}
	return v, api.OK
}

// Far: the constants that the interfaces show, in order, each with its module's name.
func Far(l []api.Iface) []Const {
	var far []Const
	for _, f := range l {
		for _, i := range f.Items {
			if i.Kind == api.DConst {
				far = append(far, Const{Mod: f.Name, Name: i.Name, Value: api.Value{Type: i.Type, Bits: i.Bits}})
			}
		}
	}
	return far
}
