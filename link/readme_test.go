package link_test

import (
	"fmt"
	"testing"

	"foundry/api"
	"foundry/code"
	"foundry/image"
	"foundry/link"
	"foundry/object"
)

// What README.md tells of this package.
func TestReadme(t *testing.T) {
	one := api.Value{Type: api.TInt, Bits: 1}
	sig := code.Sig{Result: api.TInt}
	k := object.Object{
		Module: "k",
		Vars:   []object.Var{{Name: "v", Value: one}},
		Fns:    []object.Fn{{Name: "f", Fn: code.Fn{Sig: sig, Code: []code.Ins{{Op: 4}, {Op: 11}}}}},
		Relocs: []object.Reloc{{Fn: 0, At: 0, Kind: object.ToVar, Mod: "k", Name: "v"}},
	}
	main := object.Object{
		Module: "main",
		Fns:    []object.Fn{{Name: "main", Fn: code.Fn{Sig: sig, Code: []code.Ins{{Op: 10}, {Op: 11}}}}},
		Relocs: []object.Reloc{{Fn: 0, At: 0, Kind: object.ToFn, Mod: "k", Name: "f"}},
	}
	i, p := link.Link([]object.Object{main, k})
	is(t, "Link", p, api.Problem{})
	is(t, "Text", image.Text(i), "image 1 2 1\nvar 1\nfn 0\n0 load 0\n1 return\nfn 1\n0 call 0\n1 return\n")
	is(t, "Symbols", fmt.Sprint(link.Symbols([]object.Object{main, k})), "[{k v 1 0} {k f 2 0} {main main 2 1}]")
	b, p := link.Bytes([]object.Object{k, main})
	is(t, "Bytes", fmt.Sprint(len(b), p), fmt.Sprint(51, api.Problem{}))
	_, p = link.Link([]object.Object{main})
	is(t, "main alone", p, api.Problem{Code: api.ErrSymbol, Module: "main"})
	_, p = link.Link([]object.Object{k})
	is(t, "k alone", p, api.Problem{Code: api.ErrMain, Module: "main"})
}
