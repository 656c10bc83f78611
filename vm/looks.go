package vm

import (
	"slices"

	"foundry/api"
)

// Trace: all that was shown.
func (m *Machine) Trace() []api.Value {
	if m == nil {
		return nil
	}
	return slices.Clone(m.trace)
}

// Outcome: how the run stands.
func (m *Machine) Outcome() api.Outcome {
	if m == nil {
		return api.Outcome{}
	}
	return m.outcome
}

// Steps: how many were made.
func (m *Machine) Steps() int {
	if m == nil {
		return 0
	}
	return m.steps
}

// Frames: the calls that are at work, from the first one on.
func (m *Machine) Frames() []Frame {
	if m == nil {
		return nil
	}
	var l []Frame
	for _, c := range m.calls {
		l = append(l, Frame{Fn: c.fn, At: c.at, Locals: slices.Clone(c.locals), Stack: slices.Clone(c.stack), Tries: len(c.tries)})
	}
	return l
}

// Vars: the variables as they stand.
func (m *Machine) Vars() []api.Value {
	if m == nil {
		return nil
	}
	return slices.Clone(m.vars)
}

// Taken: how many numbers of input.
func (m *Machine) Taken() int {
	if m == nil {
		return 0
	}
	return m.taken
}

// Clone: a machine that is the same in all, and shares nothing with this one.
func (m *Machine) Clone() *Machine {
	if m == nil {
		return nil
	}
	other := *m
	other.fns = copied(m.fns)
	other.vars, other.input, other.trace = slices.Clone(m.vars), slices.Clone(m.input), slices.Clone(m.trace)
	other.calls = nil
	for _, c := range m.calls {
		other.calls = append(other.calls, c.clone())
	}
	return &other
}
