package image_test

import (
	"fmt"
	"testing"

	"foundry/api"
	"foundry/code"
	"foundry/image"
)

// What README.md tells of this package.
func TestReadme(t *testing.T) {
	one := api.Value{Type: api.TInt, Bits: 1}
	i := image.Image{
		Vars: []api.Value{one},
		Fns: []code.Fn{
			{Sig: code.Sig{Result: api.TInt}, Code: []code.Ins{{Op: 4}, {Op: 10, N: 1}, {Op: 11}}},
			{Sig: code.Sig{Params: []int{api.TInt}, Result: api.TInt}, Locals: []int{api.TInt}, Code: []code.Ins{{Op: 2}, {Op: 11}}},
		},
	}
	is(t, "Right", image.Right(i), api.OK)
	is(t, "Text", image.Text(i), "image 1 2 0\nvar 1\nfn 0\n0 load 0\n1 call 1\n2 return\nfn 1\n0 get 0\n1 return\n")
	p := image.Frame(i)
	is(t, "Frame", fmt.Sprint(p.Fns, p.Vars), "[{[] 1} {[1] 1}] [1]")
	b, e := image.Pack(i)
	is(t, "Pack", fmt.Sprint(len(b), int(e)), "55 0")
	is(t, "Sum", image.Sum(b[:51]), uint32(b[51])<<24|uint32(b[52])<<16|uint32(b[53])<<8|uint32(b[54]))
	back, e := image.Unpack(b)
	is(t, "Unpack", fmt.Sprint(image.Same(back, i), int(e)), "true 0")
	b[20]++
	_, e = image.Unpack(b)
	is(t, "Unpack of a turned byte", e, api.ErrImage)
	i.Main = 1
	is(t, "Right of another Main", image.Right(i), api.ErrImage)
}
