package source

import "foundry/api"

// action: what a statement or a block does in a call that is at work; is the call over behind it?
type action func(c *call) bool

func (b *builder) block(l []api.Stmt) action {
	actions := make([]action, len(l))
	for at, s := range l {
		actions[at] = b.stmt(s)
	}
	return func(c *call) bool {
		for _, do := range actions {
			c.step()
			if do(c) {
				return true
			}
		}
		return false
	}
}

func (b *builder) stmt(s api.Stmt) action {
	switch s.Kind {
	case api.SLet:
		value := b.expr(s.E[0])
		b.give(s.Name)
		return set(b.variable(s.Name), value)
	case api.SSet:
		return set(b.variable(s.Name), b.expr(s.E[0]))
	case api.SIf:
		return choose(b.expr(s.E[0]), b.block(s.Body), b.block(s.Else))
	case api.SWhile:
		return repeat(b.expr(s.E[0]), b.block(s.Body))
	case api.SReturn:
		return b.leave(s.E)
	case api.SShow:
		return show(b.expr(s.E[0]))
	case api.SFail:
		return fail(b.expr(s.E[0]))
	case api.STry:
		body := b.block(s.Body)
		b.give(s.Name)
		return attempt(body, b.variable(s.Name), b.block(s.Else))
	}
	return drop(b.expr(s.E[0]))
}

func set(variable func(c *call) *api.Value, value expression) action {
	return func(c *call) bool {
		v := value(c)
		*variable(c) = v
		return false
	}
}

func choose(condition expression, first, second action) action {
	return func(c *call) bool {
		if isTrue(condition(c)) {
			return first(c)
		}
		return second(c)
	}
}

func repeat(condition expression, body action) action {
	again := func(c *call) bool {
		c.step()
		return isTrue(condition(c))
	}
	return func(c *call) bool {
		for again(c) {
			if body(c) {
				return true
			}
		}
		return false
	}
}

func (b *builder) leave(l []api.Expr) action {
	if len(l) == 0 {
		return func(*call) bool { return true }
	}
	value := b.expr(l[0])
	return func(c *call) bool {
		c.result = value(c)
		return true
	}
}

func show(value expression) action {
	return func(c *call) bool {
		c.show(value(c))
		return false
	}
}

func fail(value expression) action {
	return func(c *call) bool {
		panic(trap{kind: api.TrapFail, value: int64(value(c).Bits)})
	}
}

// attempt: the second block is gone through when the try is over, so that what comes up out of it is for the next one.
func attempt(body action, variable func(c *call) *api.Value, second action) action {
	return func(c *call) bool {
		over, came, trapped := c.try(body)
		if !trapped {
			return over
		}
		*variable(c) = whole(Bound(came.kind, came.value))
		return second(c)
	}
}

func drop(value expression) action {
	return func(c *call) bool {
		value(c)
		return false
	}
}
