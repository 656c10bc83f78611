package source_test

import (
	"foundry/api"
	"foundry/check"
	"foundry/fold"
	"foundry/iface"
	"foundry/source"
)

// model goes through the trees as they stand: names are looked up where they are asked for, and what goes up is answered.
type model struct {
	mods         map[string]api.Module
	vars         map[[2]string]api.Value
	input        []int64
	taken        int
	wanted       bool // a number was asked for that was not there
	asked, steps int
	calls        int
	trace        []api.Value
}

// stop: why something is over before its end.
type stop struct {
	kind  int
	trap  int
	value int64
}

const (
	goesOn = iota
	returns
	traps
	runsOut
)

// modelFrame: a call; scopes from the outermost on.
type modelFrame struct {
	mod    string
	scopes []map[string]api.Value
	result api.Value
}

func trapped(trap int) stop {
	return stop{kind: traps, trap: trap}
}

func modelOf(l []api.Module, input []int64, asked int) *model {
	x := &model{mods: map[string]api.Module{}, vars: map[[2]string]api.Value{}, input: input, asked: asked}
	for _, m := range l {
		x.mods[m.Name] = m
	}
	for _, m := range l {
		for _, d := range m.Decls {
			if d.Kind == api.DVar {
				x.vars[[2]string{m.Name, d.Name}], _ = x.expr(&modelFrame{mod: m.Name}, d.E[0])
			}
		}
	}
	return x
}

// run: what Run has to answer.
func (x *model) run() ([]api.Value, api.Outcome, int) {
	v, s := x.call("main", "main", nil)
	switch s.kind {
	case traps:
		return x.trace, api.Outcome{Kind: api.Trapped, Trap: s.trap, Value: s.value}, x.steps
	case runsOut:
		return x.trace, api.Outcome{}, x.steps
	}
	return x.trace, api.Outcome{Kind: api.Halted, Value: int64(v.Bits)}, x.steps
}

func (x *model) step() stop {
	if x.steps >= x.asked {
		return stop{kind: runsOut}
	}
	x.steps++
	return stop{}
}

func (x *model) decl(mod, name string) api.Decl {
	for _, d := range x.mods[mod].Decls {
		if d.Name == name {
			return d
		}
	}
	return api.Decl{}
}

func (x *model) call(mod, name string, args []api.Value) (api.Value, stop) {
	if x.calls >= 64 {
		return api.Value{}, trapped(5)
	}
	if s := x.step(); s.kind != goesOn {
		return api.Value{}, s
	}
	d := x.decl(mod, name)
	f := &modelFrame{mod: mod, scopes: []map[string]api.Value{{}}}
	for at, p := range d.Params {
		f.scopes[0][p.Name] = args[at]
	}
	x.calls++
	s := x.block(f, d.Body)
	x.calls--
	if s.kind == returns {
		s = stop{}
	}
	return f.result, s
}

// named: a constant's value is worked out each time.
func (x *model) named(f *modelFrame, name string) (api.Value, stop) {
	for _, scope := range f.scopes {
		if v, there := scope[name]; there {
			return v, stop{}
		}
	}
	return x.outer(f.mod, name)
}

func (x *model) outer(mod, name string) (api.Value, stop) {
	if v, there := x.vars[[2]string{mod, name}]; there {
		return v, stop{}
	}
	return x.expr(&modelFrame{mod: mod}, x.decl(mod, name).E[0])
}

func (x *model) expr(f *modelFrame, e api.Expr) (api.Value, stop) {
	switch e.Kind {
	case api.EName:
		return x.named(f, e.Name)
	case api.EFar:
		return x.outer(e.Mod, e.Name)
	case api.EInput:
		if x.taken == len(x.input) {
			x.wanted = true
			return api.Value{}, trapped(4)
		}
		x.taken++
		return api.Value{Type: 1, Bits: uint64(x.input[x.taken-1])}, stop{}
	case api.ECall, api.EFarCall, api.EUn, api.EBin:
		return x.whole(f, e)
	}
	return e.Value, stop{}
}

// whole: of an expression that has parts.
func (x *model) whole(f *modelFrame, e api.Expr) (api.Value, stop) {
	var parts []api.Value
	for _, kid := range e.Kids {
		v, s := x.expr(f, kid)
		if s.kind != goesOn {
			return api.Value{}, s
		}
		parts = append(parts, v)
		if e.Kind == api.EBin && (e.Op == api.BAnd && v.Bits == 0 || e.Op == api.BOr && v.Bits == 1) {
			return v, stop{}
		}
	}
	var v api.Value
	trap := 0
	switch e.Kind {
	case api.ECall:
		return x.call(f.mod, e.Name, parts)
	case api.EFarCall:
		return x.call(e.Mod, e.Name, parts)
	case api.EUn:
		v, trap = fold.Un(e.Op, parts[0])
	case api.EBin:
		v, trap = fold.Bin(e.Op, parts[0], parts[1])
	}
	if trap != 0 {
		return api.Value{}, trapped(trap)
	}
	return v, stop{}
}

func (x *model) block(f *modelFrame, l []api.Stmt) stop {
	f.scopes = append(f.scopes, map[string]api.Value{})
	depth := len(f.scopes)
	for _, s := range l {
		end := x.step()
		if end.kind == goesOn {
			end = x.stmt(f, s)
		}
		if end.kind != goesOn {
			f.scopes = f.scopes[:depth-1]
			return end
		}
	}
	f.scopes = f.scopes[:depth-1]
	return stop{}
}

func (x *model) stmt(f *modelFrame, s api.Stmt) stop {
	switch s.Kind {
	case api.SWhile:
		return x.while(f, s)
	case api.STry:
		return x.try(f, s)
	}
	var v api.Value
	for _, e := range s.E {
		var end stop
		if v, end = x.expr(f, e); end.kind != goesOn {
			return end
		}
	}
	switch s.Kind {
	case api.SLet:
		f.scopes[len(f.scopes)-1][s.Name] = v
	case api.SSet:
		x.set(f, s.Name, v)
	case api.SIf:
		if v.Bits == 1 {
			return x.block(f, s.Body)
		}
		return x.block(f, s.Else)
	case api.SReturn:
		f.result = v
		return stop{kind: returns}
	case api.SShow:
		if len(x.trace) >= 1024 {
			return trapped(7)
		}
		x.trace = append(x.trace, v)
	case api.SFail:
		return stop{kind: traps, trap: 6, value: int64(v.Bits)}
	}
	return stop{}
}

func (x *model) set(f *modelFrame, name string, v api.Value) {
	for _, scope := range f.scopes {
		if _, there := scope[name]; there {
			scope[name] = v
			return
		}
	}
	x.vars[[2]string{f.mod, name}] = v
}

func (x *model) while(f *modelFrame, s api.Stmt) stop {
	for {
		if end := x.step(); end.kind != goesOn {
			return end
		}
		v, end := x.expr(f, s.E[0])
		if end.kind != goesOn || v.Bits == 0 {
			return end
		}
		if end := x.block(f, s.Body); end.kind != goesOn {
			return end
		}
	}
}

func (x *model) try(f *modelFrame, s api.Stmt) stop {
	end := x.block(f, s.Body)
	if end.kind != traps || end.trap == 7 {
		return end
	}
	bound := []int64{0, -1, -2, -3, -4, -5, end.value}[end.trap]
	f.scopes = append(f.scopes, map[string]api.Value{s.Name: {Type: 1, Bits: uint64(bound)}})
	depth := len(f.scopes)
	end = x.block(f, s.Else)
	f.scopes = f.scopes[:depth-1]
	return end
}

// modelRight: is the project right? In rounds, by the interfaces that are known, without a graph.
func modelRight(l []api.Module) bool {
	if len(l) > 32 {
		return false
	}
	known := map[string]api.Iface{}
	for range l {
		for _, m := range l {
			given, all := given(m, known)
			if _, there := known[m.Name]; there || !all {
				continue
			}
			shown, _, _ := iface.Extract(m, given)
			if _, _, code := check.Check(m, given); code == api.OK {
				known[m.Name] = shown
			}
		}
	}
	main := false
	for at, m := range l {
		if _, right := known[m.Name]; !right {
			return false
		}
		for _, other := range l[:at] {
			if other.Name == m.Name {
				return false
			}
		}
		for _, d := range m.Decls {
			main = main || m.Name == "main" && d.Name == "main" && d.Kind == api.DFn && d.Type == api.TInt && len(d.Params) == 0
		}
	}
	return main
}

// given: the interfaces of the module's imports, and whether all are known.
func given(m api.Module, known map[string]api.Iface) ([]api.Iface, bool) {
	var l []api.Iface
	for _, name := range m.Imports {
		if f, there := known[name]; there {
			l = append(l, f)
		}
	}
	return l, len(l) == len(m.Imports)
}

// modelNew: what New has to answer: an error or none, and a program or none.
func modelNew(l []api.Module) (api.Errno, bool) {
	if modelRight(l) {
		return api.OK, true
	}
	return api.ErrArg, false
}

func newAnswers(l []api.Module) (api.Errno, bool) {
	p, code := source.New(l)
	return code, p != nil
}
