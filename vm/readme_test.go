package vm_test

import (
	"testing"

	"foundry/api"
	"foundry/code"
	"foundry/image"
	"foundry/vm"
)

// What README.md tells of this package.
func TestReadme(t *testing.T) {
	n := api.Value{Type: api.TInt, Bits: 7}
	i := image.Image{
		Vars: []api.Value{n},
		Fns: []code.Fn{
			{Sig: code.Sig{Result: api.TInt}, Code: []code.Ins{{Op: 4}, {Op: 15, N: 5}, {Op: 14}, {Op: 10, N: 1}, {Op: 11}, {Op: 12}, {Op: 11}}},
			{Sig: code.Sig{Params: []int{api.TInt}, Result: api.TInt}, Locals: []int{api.TInt}, Code: []code.Ins{{Op: 2}, {Op: 12}, {Op: 14}, {Op: 11}}},
		},
	}
	m, e := vm.New(i, []int64{9})
	is(t, "New", e, api.OK)
	isText(t, "Run(5)", runTold(m.Run(5)), "() running 0")
	isText(t, "Frames", framesTold(m.Frames()), "0@4()[7]1 1@1(9)[9]0")
	c := m.Clone()
	isText(t, "Run(100)", runTold(m.Run(100)), "(9 -4) halted 7 0")
	isText(t, "Trace", valuesTold(m.Trace()), "9 -4")
	is(t, "Steps", m.Steps(), 9)
	is(t, "Taken", m.Taken(), 1)
	is(t, "Frames", len(m.Frames()), 0)
	is(t, "the clone's Steps", c.Steps(), 5)
	_, _, e = m.Run(-1)
	is(t, "Run(-1)", e, api.ErrArg)
	i.Main = 1
	_, e = vm.New(i, nil)
	is(t, "New of another Main", e, api.ErrImage)
}
