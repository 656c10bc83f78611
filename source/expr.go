package source

import (
	"slices"

	"foundry/api"
	"foundry/fold"
)

// expression: its value in a call that is at work.
type expression func(c *call) api.Value

// builder: makes closures of what stands in a function.
type builder struct {
	*project
	mod   string
	slots map[string]int // of local names
}

// give: the name has a slot. Names of blocks that do not stand in one another may share one: each is set ahead of all that asks for it.
func (b *builder) give(name string) {
	if _, there := b.slots[name]; !there {
		b.slots[name] = len(b.slots)
	}
}

// operand: what stands on the right of an operator.
type operand struct {
	op    int
	right expression
}

// expr: operators are gone through from the left by a loop: what stands on their left, and that alone, may be nested without a bound, and MaxCalls calls may each stand at the lower end of it.
func (b *builder) expr(e api.Expr) expression {
	var operands []operand
	for e.Kind == api.EBin {
		operands = append(operands, operand{e.Op, b.expr(e.Kids[1])})
		e = e.Kids[0]
	}
	first := b.single(e)
	if len(operands) == 0 {
		return first
	}
	slices.Reverse(operands)
	return func(c *call) api.Value {
		v := first(c)
		for _, o := range operands {
			v = o.behind(v, c)
		}
		return v
	}
}

// behind: the operator's value, with that one on its left.
func (o operand) behind(left api.Value, c *call) api.Value {
	if decides(o.op, left) {
		return left
	}
	return untrapped(fold.Bin(o.op, left, o.right(c)))
}

// decides: is the left side the answer already, so that the right one is not asked?
func decides(op int, left api.Value) bool {
	switch op {
	case api.BAnd:
		return !isTrue(left)
	case api.BOr:
		return isTrue(left)
	}
	return false
}

// single: of an expression that is no operator of two.
func (b *builder) single(e api.Expr) expression {
	switch e.Kind {
	case api.EName:
		return b.named(e.Name)
	case api.EFar:
		return always(b.consts[place{e.Mod, e.Name}])
	case api.ECall:
		return b.called(place{b.mod, e.Name}, e.Kids)
	case api.EFarCall:
		return b.called(place{e.Mod, e.Name}, e.Kids)
	case api.EUn:
		return unary(e.Op, b.expr(e.Kids[0]))
	case api.EInput:
		return func(c *call) api.Value { return c.next() }
	}
	return always(e.Value)
}

func always(v api.Value) expression {
	return func(*call) api.Value { return v }
}

func unary(op int, of expression) expression {
	return func(c *call) api.Value { return untrapped(fold.Un(op, of(c))) }
}

func (b *builder) named(name string) expression {
	if v, constant := b.consts[place{b.mod, name}]; constant {
		return always(v)
	}
	variable := b.variable(name)
	return func(c *call) api.Value { return *variable(c) }
}

// variable: where the value stands that a local name, or a variable of the module, has.
func (b *builder) variable(name string) func(c *call) *api.Value {
	if at, local := b.slots[name]; local {
		return func(c *call) *api.Value { return &c.slots[at] }
	}
	at := b.varAt[place{b.mod, name}]
	return func(c *call) *api.Value { return &c.vars[at] }
}

func (b *builder) called(name place, kids []api.Expr) expression {
	fn := b.fns[name]
	args := make([]expression, len(kids))
	for at, kid := range kids {
		args[at] = b.expr(kid)
	}
	return func(c *call) api.Value {
		slots := make([]api.Value, fn.slots)
		for at, arg := range args {
			slots[at] = arg(c)
		}
		return c.enter(fn, slots)
	}
}
