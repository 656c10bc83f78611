package code_test

import (
	"fmt"
	"testing"

	"foundry/api"
	"foundry/code"
)

// What README.md tells of this package.
func TestReadme(t *testing.T) {
	one := api.Value{Type: api.TInt, Bits: 1}
	l := []code.Ins{{Op: 2}, {Op: 1, V: one}, {Op: 7, N: api.BAdd}, {Op: 11}}
	is(t, "Texts", code.Texts(l), "0 get 0\n1 push 1\n2 bin +\n3 return\n")
	b, e := code.Encode(l)
	is(t, "Encode", fmt.Sprint(len(b), int(e)), "15 0")
	is(t, "Decode", decoded(b), insTold(l, api.OK))
	is(t, "Decode of the rest", decoded(b[1:]), insTold(nil, api.ErrCode))
	f := code.Fn{Sig: code.Sig{Params: []int{api.TInt}, Result: api.TInt}, Locals: []int{api.TInt}, Code: l}
	verifies(t, "Verify", f, code.Frame{}, 0, api.OK)
	shapeIs(t, f, code.Frame{}, 2, "ii", 0)
	f.Code, e = code.Patch(l, 0, 1)
	is(t, "Patch", e, api.OK)
	verifies(t, "Verify of the patched one", f, code.Frame{}, 0, api.ErrCode)
}
