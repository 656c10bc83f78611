package gen

import (
	"foundry/api"
	"foundry/code"
)

func (f *function) block(l []api.Stmt) {
	f.push()
	defer f.drop()
	for _, s := range l {
		// A function with too much code is none, so that no more of it is needed.
		if f.next() > code.MaxCode {
			return
		}
		f.stmt(s)
	}
}

func (f *function) stmt(s api.Stmt) {
	switch s.Kind {
	case api.SLet:
		f.expr(s.E[0])
		f.addWith(opPut, f.give(s.Name))
	case api.SSet:
		f.expr(s.E[0])
		f.set(s.Name)
	case api.SIf:
		f.choose(s)
	case api.SWhile:
		f.repeat(s)
	case api.SReturn:
		for _, e := range s.E {
			f.expr(e)
		}
		f.add(opReturn)
	case api.SShow:
		f.expr(s.E[0])
		f.add(opShow)
	case api.SFail:
		f.expr(s.E[0])
		f.add(opFail)
	case api.STry:
		f.attempt(s)
	case api.SDo:
		f.do(s.E[0])
	}
}

// set: what is on the stack becomes the value of a local name, or of a variable of the module.
func (f *function) set(name string) {
	if slot, local := f.local(name); local {
		f.addWith(opPut, slot)
		return
	}
	f.addOpen(opStore, f.at("", name))
}

func (f *function) choose(s api.Stmt) {
	f.expr(s.E[0])
	otherwise := f.addAhead(opUnless)
	f.block(s.Body)
	if len(s.Else) == 0 {
		otherwise()
		return
	}
	behind := f.addAhead(opJump)
	otherwise()
	f.block(s.Else)
	behind()
}

func (f *function) repeat(s api.Stmt) {
	again := f.next()
	f.expr(s.E[0])
	behind := f.addAhead(opUnless)
	f.block(s.Body)
	f.addWith(opJump, again)
	behind()
}

func (f *function) attempt(s api.Stmt) {
	trapped := f.addAhead(opTry)
	f.block(s.Body)
	f.add(opUntry)
	behind := f.addAhead(opJump)
	trapped()
	f.catch(s.Name, s.Else)
	behind()
}

// catch: what a try does with the trap, whose number is on the stack.
func (f *function) catch(name string, l []api.Stmt) {
	f.push()
	defer f.drop()
	f.addWith(opPut, f.give(name))
	f.block(l)
}

// do: a call whose result, if it has one, is gone.
func (f *function) do(call api.Expr) {
	f.expr(call)
	if f.results[f.at(call.Mod, call.Name)] != api.TNone {
		f.add(opDrop)
	}
}
