package gen_test

import (
	"fmt"
	"testing"

	"foundry/api"
	"foundry/code"
	"foundry/gen"
	"foundry/object"
	"foundry/parse"
)

// What README.md tells of this package.
func TestReadme(t *testing.T) {
	m, _, _ := parse.Parse("module m; import k; var v: int = 3; fn f(a: int): int { if k.g(a) { v = a + k.Y; } return v; }")
	k := api.Iface{Name: "k", Items: []api.Item{
		{Kind: api.DConst, Name: "Y", Type: api.TInt, Bits: 5},
		{Kind: api.DFn, Name: "g", Type: api.TBool, Params: []int{api.TInt}},
	}}
	o, at, e := gen.Gen(m, []api.Iface{k})
	is(t, "Gen", fmt.Sprint(at, int(e)), "0 0")
	is(t, "Text", object.Text(o), "object m\nvar v 3\nfn f\n  get 0\n  call 0 @k.g\n  unless 7\n  get 0\n  push 5\n  bin +\n  store 0 @m.v\n  load 0 @m.v\n  return\n")
	is(t, "parts", fmt.Sprint(len(o.Vars), len(o.Fns), len(o.Relocs)), "1 1 3")
	_, at, e = gen.Gen(m, nil)
	is(t, "without k", fmt.Sprint(at, e == api.ErrImport), "0 true")

	l, e := gen.Code(m, []api.Iface{k}, "f")
	is(t, "Code", fmt.Sprint(len(l), int(e)), "9 0")
	is(t, "Code is the object's", opsText(l), opsText(o.Fns[0].Fn.Code))
	_, e = gen.Code(m, []api.Iface{k}, "v")
	is(t, "Code of a variable", e, api.ErrUnknown)
	p, e := gen.Frame(m, []api.Iface{k})
	is(t, "Frame", frameKey(p, e), frameKey(code.Frame{Fns: []code.Sig{sig(api.TInt, api.TInt), sig(api.TBool, api.TInt)}, Vars: []int{api.TInt}}, api.OK))
	f := o.Fns[0].Fn
	f.Code, e = code.Patch(f.Code, 1, 1)
	is(t, "Patch", e, api.OK)
	at, e = code.Verify(f, p)
	is(t, "Verify", fmt.Sprint(at, int(e)), "0 0")
}
