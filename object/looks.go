package object

import (
	"slices"
	"strings"

	"foundry/api"
	"foundry/code"
	"foundry/names"
	"foundry/types"
)

// Same: are the objects the same in all, right or not?
func Same(a, b Object) bool {
	return a.Module == b.Module && slices.Equal(a.Vars, b.Vars) && slices.EqualFunc(a.Fns, b.Fns, sameFn) && slices.Equal(a.Relocs, b.Relocs)
}

func sameFn(a, b Fn) bool {
	x, y := a.Fn, b.Fn
	return a.Name == b.Name && slices.Equal(x.Sig.Params, y.Sig.Params) && x.Sig.Result == y.Sig.Result &&
		slices.Equal(x.Locals, y.Locals) && slices.Equal(x.Code, y.Code)
}

// Defines: the names of the variables and functions, in order.
func Defines(o Object) []string {
	var l []string
	for _, v := range o.Vars {
		l = append(l, v.Name)
	}
	for _, f := range o.Fns {
		l = append(l, f.Name)
	}
	slices.SortFunc(l, names.Cmp)
	return l
}

// Needs: the names of what belongs to open places and stands in other modules, in order, each once.
func Needs(o Object) []string {
	var l []string
	for _, r := range o.Relocs {
		if r.Mod != o.Module {
			l = append(l, names.Far(r.Mod, r.Name))
		}
	}
	return names.Set(l)
}

// Text: the object in lines; of one that is not right nothing.
func Text(o Object) string {
	if Right(o) != api.OK {
		return ""
	}
	lines := slices.Concat([]string{"object " + o.Module}, varLines(o), fnLines(o))
	return strings.Join(lines, "\n") + "\n"
}

func varLines(o Object) []string {
	var l []string
	for _, v := range o.Vars {
		l = append(l, "var "+v.Name+" "+types.Show(v.Value))
	}
	return l
}

// fnLines goes through the Relocs beside the open places, since they stand in one order.
func fnLines(o Object) []string {
	var l []string
	relocs := o.Relocs
	for _, f := range o.Fns {
		l = append(l, "fn "+f.Name)
		for _, i := range f.Fn.Code {
			line := "  " + code.Text(i)
			if openKind(i) != 0 {
				line += " @" + names.Far(relocs[0].Mod, relocs[0].Name)
				relocs = relocs[1:]
			}
			l = append(l, line)
		}
	}
	return l
}
