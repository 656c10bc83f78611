package object_test

import (
	"fmt"
	"strings"
	"testing"

	"foundry/api"
	"foundry/code"
	"foundry/object"
)

// What README.md tells of this package.
func TestReadme(t *testing.T) {
	o := object.Object{
		Module: "m",
		Vars:   []object.Var{{Name: "v", Value: api.Value{Type: api.TInt, Bits: 1}}},
		Fns:    []object.Fn{{Name: "f", Fn: code.Fn{Code: []code.Ins{{Op: 4}, {Op: 10}, {Op: 11}}}}},
	}
	is(t, "without Relocs", object.Right(o), api.ErrObject)
	o.Relocs = []object.Reloc{
		{Fn: 0, At: 0, Kind: object.ToVar, Mod: "m", Name: "v"},
		{Fn: 0, At: 1, Kind: object.ToFn, Mod: "k", Name: "g"},
	}
	is(t, "with Relocs", object.Right(o), api.OK)
	is(t, "Text", object.Text(o), "object m\nvar v 1\nfn f\n  load 0 @m.v\n  call 0 @k.g\n  return\n")
	b, e := object.Pack(o)
	is(t, "Pack", fmt.Sprint(len(b), int(e)), "84 0")
	back, e := object.Unpack(b)
	is(t, "Unpack", fmt.Sprint(object.Same(back, o), int(e)), "true 0")
	_, e = object.Unpack(b[1:])
	is(t, "Unpack of the rest", e, api.ErrObject)
	is(t, "Defines", strings.Join(object.Defines(o), ", "), "f, v")
	is(t, "Needs", strings.Join(object.Needs(o), ", "), "k.g")
}
