package link_test

import (
	"cmp"
	"slices"

	"foundry/api"
	"foundry/code"
	"foundry/image"
	"foundry/link"
	"foundry/object"
)

// A model of the chapter's words that sorts no objects: a number is what stands ahead, counted.

// isAhead: does the object at a come ahead of the one at b in the order?
func isAhead(l []object.Object, a, b int) bool {
	return l[a].Module < l[b].Module || l[a].Module == l[b].Module && a < b
}

// modelNumbers: the numbers of the first variable and of the first function of the object at the place.
func modelNumbers(l []object.Object, at int) (vars, fns int) {
	for other := range l {
		if isAhead(l, other, at) {
			vars += len(l[other].Vars)
			fns += len(l[other].Fns)
		}
	}
	return vars, fns
}

func modelSymbols(l []object.Object) []link.Symbol {
	var all []link.Symbol
	for at, o := range l {
		vars, fns := modelNumbers(l, at)
		for n, f := range o.Fns {
			all = append(all, link.Symbol{Mod: o.Module, Name: f.Name, Kind: 2, N: fns + n})
		}
		for n, v := range o.Vars {
			all = append(all, link.Symbol{Mod: o.Module, Name: v.Name, Kind: 1, N: vars + n})
		}
	}
	slices.SortFunc(all, func(a, b link.Symbol) int { return cmp.Compare(a.Kind<<32+a.N, b.Kind<<32+b.N) })
	return all
}

// modelNumber: the number of that one of the symbols which the Reloc names; below 0, if there is none.
func modelNumber(l []link.Symbol, r object.Reloc) int {
	for _, s := range l {
		if s.Kind == r.Kind && s.Mod == r.Mod && s.Name == r.Name {
			return s.N
		}
	}
	return -1
}

// modelOrder: the places of the objects, in the order.
func modelOrder(l []object.Object) []int {
	places := make([]int, len(l))
	for at := range l {
		behind := 0
		for other := range l {
			if isAhead(l, other, at) {
				behind++
			}
		}
		places[behind] = at
	}
	return places
}

// modelWrong: all that is wrong with the objects, the first of it first.
func modelWrong(l []object.Object) []api.Problem {
	var wrong []api.Problem
	if len(l) >= 33 {
		wrong = append(wrong, api.Problem{Code: api.ErrBig})
	}
	order, symbols := modelOrder(l), modelSymbols(l)
	for _, at := range order {
		if e := object.Right(l[at]); e != api.OK {
			wrong = append(wrong, api.Problem{Code: e, Module: l[at].Module})
		}
	}
	for _, at := range order {
		if slices.ContainsFunc(l[:at], func(o object.Object) bool { return o.Module == l[at].Module }) {
			wrong = append(wrong, api.Problem{Code: api.ErrTwice, Module: l[at].Module})
		}
	}
	for _, at := range order {
		for n, r := range l[at].Relocs {
			if modelNumber(symbols, r) < 0 {
				wrong = append(wrong, api.Problem{Code: api.ErrSymbol, Module: l[at].Module, Place: n})
			}
		}
	}
	for _, o := range l {
		for _, f := range o.Fns {
			if o.Module == "main" && f.Name == "main" && len(f.Fn.Sig.Params) == 0 && f.Fn.Sig.Result == api.TInt {
				return wrong
			}
		}
	}
	return append(wrong, api.Problem{Code: api.ErrMain, Module: "main"})
}

// modelLink: the image is filled in object by object, as they come.
func modelLink(l []object.Object) (image.Image, api.Problem) {
	if wrong := modelWrong(l); len(wrong) > 0 {
		return image.Image{}, wrong[0]
	}
	i := modelImage(l)
	p := image.Frame(i)
	for _, at := range modelOrder(l) {
		_, first := modelNumbers(l, at)
		for n := range l[at].Fns {
			if _, e := code.Verify(i.Fns[first+n], p); e != api.OK {
				return image.Image{}, api.Problem{Code: e, Module: l[at].Module, Place: n}
			}
		}
	}
	return i, api.Problem{}
}

func modelImage(l []object.Object) image.Image {
	symbols := modelSymbols(l)
	i := image.Image{Main: modelNumber(symbols, object.Reloc{Kind: 2, Mod: "main", Name: "main"})}
	for _, o := range l {
		i.Vars = append(i.Vars, make([]api.Value, len(o.Vars))...)
		i.Fns = append(i.Fns, make([]code.Fn, len(o.Fns))...)
	}
	for at, o := range l {
		vars, fns := modelNumbers(l, at)
		for n, v := range o.Vars {
			i.Vars[vars+n] = v.Value
		}
		for n, f := range o.Fns {
			g := f.Fn
			g.Code = slices.Clone(g.Code)
			for _, r := range o.Relocs {
				if r.Fn == n {
					g.Code[r.At].N = modelNumber(symbols, r)
				}
			}
			i.Fns[fns+n] = g
		}
	}
	return i
}
