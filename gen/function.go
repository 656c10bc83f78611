package gen

import (
	"foundry/api"
	"foundry/code"
	"foundry/object"
)

// The Ops, by their numbers in layer 14's table.
const (
	opPush = 1 + iota
	opGet
	opPut
	opLoad
	opStore
	opUn
	opBin
	opJump
	opUnless
	opCall
	opReturn
	opShow
	opFail
	opInput
	opTry
	opUntry
	opDrop
)

// scope: the slots of the local names that one block gives.
type scope map[string]int

// function: one whose code is being made.
type function struct {
	*module
	number int // among the object's functions
	slots  int // how many are taken
	scopes []scope
	code   []code.Ins
	relocs []object.Reloc
}

// functionOf: the function of that declaration, with all its code.
func functionOf(m *module, number int, d api.Decl) *function {
	f := &function{module: m, number: number}
	f.push()
	defer f.drop()
	for _, p := range d.Params {
		f.give(p.Name)
	}
	f.block(d.Body)
	if d.Type == api.TNone {
		f.add(opReturn)
	}
	return f
}

func (f *function) push() {
	f.scopes = append(f.scopes, scope{})
}

func (f *function) drop() {
	f.scopes = f.scopes[:len(f.scopes)-1]
}

// give: the name is a local one from here on to the end of the innermost scope; its slot is a new one.
func (f *function) give(name string) int {
	slot := f.slots
	f.slots++
	f.scopes[len(f.scopes)-1][name] = slot
	return slot
}

// local: the slot of a local name, and true. No two that are visible are alike, so that any order of scopes will do.
func (f *function) local(name string) (int, bool) {
	for _, s := range f.scopes {
		if slot, there := s[name]; there {
			return slot, true
		}
	}
	return 0, false
}

// next: the number of the instruction that comes next.
func (f *function) next() int {
	return len(f.code)
}

func (f *function) add(op int) {
	f.addWith(op, 0)
}

func (f *function) addWith(op, n int) {
	f.code = append(f.code, code.Ins{Op: op, N: n})
}

func (f *function) addValue(v api.Value) {
	f.code = append(f.code, code.Ins{Op: opPush, V: v})
}

func (f *function) addTruth(bits uint64) {
	f.addValue(api.Value{Type: api.TBool, Bits: bits})
}

// addOpen: an instruction whose number is told when objects are linked.
func (f *function) addOpen(op int, p place) {
	kind := object.ToVar
	if op == opCall {
		kind = object.ToFn
	}
	f.relocs = append(f.relocs, object.Reloc{Fn: f.number, At: f.next(), Kind: kind, Mod: p.mod, Name: p.name})
	f.add(op)
}

// addAhead: an instruction that names another one further down. What is answered is called where that one comes next.
func (f *function) addAhead(op int) (here func()) {
	at := f.next()
	f.add(op)
	return func() { f.code[at].N = f.next() }
}
