package link

import (
	"slices"

	"foundry/api"
	"foundry/code"
	"foundry/image"
	"foundry/object"
)

// name: what stands for a symbol.
type name struct {
	mod, name string
	kind      int
}

// linker: right objects in the order, no two of one module, and the numbers of all their symbols.
type linker struct {
	objects []object.Object
	numbers map[name]int
}

func linkerOf(l []object.Object) linker {
	k := linker{objects: l, numbers: map[name]int{}}
	for _, s := range Symbols(l) {
		k.numbers[name{s.Mod, s.Name, s.Kind}] = s.N
	}
	return k
}

// number: that of the symbol which the Reloc names, and true, if there is one.
func (k linker) number(r object.Reloc) (int, bool) {
	n, there := k.numbers[name{r.Mod, r.Name, r.Kind}]
	return n, there
}

// wrongNames: the first Reloc without a symbol; or that there is nowhere to begin.
func (k linker) wrongNames() api.Problem {
	for _, o := range k.objects {
		for at, r := range o.Relocs {
			if _, there := k.number(r); !there {
				return api.Problem{Code: api.ErrSymbol, Module: o.Module, Place: at}
			}
		}
	}
	if !slices.ContainsFunc(k.objects, begins) {
		return api.Problem{Code: api.ErrMain, Module: mainName}
	}
	return api.Problem{}
}

// begins: does a program begin in the object?
func begins(o object.Object) bool {
	return o.Module == mainName && slices.ContainsFunc(o.Fns, isMain)
}

func isMain(f object.Fn) bool {
	return f.Name == mainName && len(f.Fn.Sig.Params) == 0 && f.Fn.Sig.Result == api.TInt
}

// image: the objects in one, right or not.
func (k linker) image() image.Image {
	i := image.Image{Main: k.numbers[name{mainName, mainName, object.ToFn}]}
	for _, o := range k.objects {
		for _, v := range o.Vars {
			i.Vars = append(i.Vars, v.Value)
		}
		i.Fns = append(i.Fns, k.closed(o)...)
	}
	return i
}

// closed: the object's functions in memory of their own, with no place open any more.
func (k linker) closed(o object.Object) []code.Fn {
	var l []code.Fn
	for _, f := range o.Fns {
		l = append(l, code.Fn{
			Sig:    code.Sig{Params: slices.Clone(f.Fn.Sig.Params), Result: f.Fn.Sig.Result},
			Locals: slices.Clone(f.Fn.Locals),
			Code:   slices.Clone(f.Fn.Code),
		})
	}
	for _, r := range o.Relocs {
		l[r.Fn].Code[r.At].N, _ = k.number(r)
	}
	return l
}

// wrongImage: the first thing that is wrong with the image, told by the object that it came from.
func (k linker) wrongImage(i image.Image) api.Problem {
	e := image.Right(i)
	if e == api.OK {
		return api.Problem{}
	}
	p := image.Frame(i)
	fns := i.Fns
	for _, o := range k.objects {
		for at := range o.Fns {
			if _, wrong := code.Verify(fns[at], p); wrong == e {
				return api.Problem{Code: e, Module: o.Module, Place: at}
			}
		}
		fns = fns[len(o.Fns):]
	}
	// No function is to blame: there are too many.
	return api.Problem{Code: e}
}
