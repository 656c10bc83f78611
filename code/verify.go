package code

import (
	"bytes"
	"slices"

	"foundry/api"
)

// Verify: 0 and OK, if the function is right in the program; else the place of what is wrong first, and its error.
func Verify(f Fn, p Frame) (int, api.Errno) {
	_, at, e := verified(f, p)
	return at, e
}

// Shape: the types on the stack ahead of the instruction, how many tries are open there, and true, if the function is right and the place is come to.
func Shape(f Fn, p Frame, at int) ([]int, int, bool) {
	w, _, e := verified(f, p)
	if e != api.OK || at < 0 || at >= len(f.Code) || w.state[at] == unseen {
		return nil, 0, false
	}
	return typesOf(w.ahead[at].stack), w.ahead[at].open, true
}

// verified: the shapes that were found, if the function is right.
func verified(f Fn, p Frame) (*walk, int, api.Errno) {
	if e := outline(f, p); e != api.OK {
		return nil, 0, e
	}
	wrong := func(i Ins) bool { return !Right(i) }
	if at := slices.IndexFunc(f.Code, wrong); at >= 0 {
		return nil, at, api.ErrCode
	}
	return goneThrough(f, p)
}

// outline: OK, if all but the instructions is as it should be.
func outline(f Fn, p Frame) api.Errno {
	s := f.Sig
	switch {
	case len(s.Params) > api.MaxParams || len(f.Locals) > api.MaxLocals || len(f.Code) > MaxCode:
		return api.ErrBig
	case len(f.Code) == 0 || len(f.Locals) < len(s.Params) || !slices.Equal(f.Locals[:len(s.Params)], s.Params):
		return api.ErrCode
	case !allOfValues(f.Locals) || !rightSig(s) || !allOfValues(p.Vars):
		return api.ErrCode
	}
	for _, s := range p.Fns {
		if !rightSig(s) {
			return api.ErrCode
		}
	}
	return api.OK
}

func ofValues(t int) bool {
	return api.TInt <= t && t <= api.TBool
}

func allOfValues(l []int) bool {
	return !slices.ContainsFunc(l, func(t int) bool { return !ofValues(t) })
}

func rightSig(s Sig) bool {
	return allOfValues(s.Params) && (s.Result == api.TNone || ofValues(s.Result))
}

// How it stands with a place.
const (
	unseen = iota
	come
	gone // gone through
)

// walk: a function that is being gone through.
type walk struct {
	site
	state []byte  // of each place
	ahead []shape // of each place that was come to
}

// way: a place to which an instruction leads, and the shape that it makes there.
type way struct {
	at int
	shape
}

// goneThrough: the shapes ahead of all that can be come to; or the place at which no shapes are found that go with one another, and why.
func goneThrough(f Fn, p Frame) (*walk, int, api.Errno) {
	w := &walk{site{f, p}, make([]byte, len(f.Code)), make([]shape, len(f.Code))}
	w.state[0] = come
	at, e := 0, api.OK
walking:
	for at = w.least(); at >= 0; at = w.least() {
		var ways []way
		if ways, e = w.ways(at); e != api.OK {
			break walking
		}
		w.state[at] = gone
		for _, to := range ways {
			if !w.note(to) {
				e = api.ErrType
				break walking
			}
		}
	}
	if e != api.OK {
		return nil, at, e
	}
	return w, 0, api.OK
}

// least: the least place that was come to and is not yet gone through; below 0, if there is none.
func (w *walk) least() int {
	return bytes.IndexByte(w.state, come)
}

// note: false, if the place has another shape.
func (w *walk) note(to way) bool {
	if w.state[to.at] == unseen {
		w.state[to.at], w.ahead[to.at] = come, to.shape
	}
	return w.ahead[to.at] == to.shape
}

// ways: where the instruction leads, the next one first.
func (w *walk) ways(at int) ([]way, api.Errno) {
	i, ahead := w.fn.Code[at], w.ahead[at]
	r, _ := rowOf(i.Op)
	if !w.has(i, r.numbers) || !r.ends && at+1 == len(w.fn.Code) || ahead.open+r.tries < 0 {
		return nil, api.ErrCode
	}
	stack, fits := w.stackBehind(i, r, ahead.stack)
	switch {
	case !fits:
		return nil, api.ErrCode
	case len(stack) > MaxStack || ahead.open+r.tries > MaxTries || i.Op == opTry && len(stack) == MaxStack:
		return nil, api.ErrBig
	}
	behind := ahead.with(stack)
	next, far := behind, behind
	switch i.Op {
	case opTry:
		next, far = behind.opening(i.N), behind.with(stack+single(api.TInt))
	case opUntry:
		next = behind.closing()
	}
	var l []way
	if !r.ends {
		l = append(l, way{at + 1, next})
	}
	if r.numbers == anInstruction {
		l = append(l, way{i.N, far})
	}
	return l, api.OK
}
