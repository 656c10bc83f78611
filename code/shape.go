package code

import (
	"strings"

	"foundry/api"
	"foundry/ints"
	"foundry/types"
)

// shape: what is there ahead of an instruction. Its lists are texts, so that shapes can be compared with ==.
type shape struct {
	stack string // a byte for each type, from below
	tries string // a line for each open try: the digits of its N, the stack that it had
	open  int    // how many tries are open
}

// tryEnd: behind each line of tries; no type and no digit is such a byte.
const tryEnd = "\n"

// with: the shape with another stack.
func (s shape) with(stack string) shape {
	s.stack = stack
	return s
}

// opening: the shape with one more open try.
func (s shape) opening(n int) shape {
	s.tries += ints.Decimal(int64(n)) + s.stack + tryEnd
	s.open++
	return s
}

// closing: the shape without the try that was opened last, of which there has to be one.
func (s shape) closing() shape {
	others := strings.TrimSuffix(s.tries, tryEnd)
	s.tries = others[:strings.LastIndex(others, tryEnd)+1]
	s.open--
	return s
}

// single: the stack of one value; of TNone the empty one.
func single(t int) string {
	if t == api.TNone {
		return ""
	}
	return string([]byte{byte(t)})
}

// stackOf: the stack of values of these types.
func stackOf(l []int) string {
	b := make([]byte, len(l))
	for at, t := range l {
		b[at] = byte(t)
	}
	return string(b)
}

// typesOf: the types on a stack, from below.
func typesOf(stack string) []int {
	var l []int
	for at := range len(stack) {
		l = append(l, int(stack[at]))
	}
	return l
}

// site: where instructions stand: their function, and the program around it.
type site struct {
	fn  Fn
	all Frame
}

// has: is there what the instruction names by its N?
func (s *site) has(i Ins, numbers int) bool {
	counts := [...]int{
		aLocal:        len(s.fn.Locals),
		aVariable:     len(s.all.Vars),
		aFunction:     len(s.all.Fns),
		anInstruction: len(s.fn.Code),
	}
	return numbers == noPlace || i.N < counts[numbers]
}

// place: the type of the local or variable that the instruction names.
func (s *site) place(i Ins, numbers int) int {
	if numbers == aLocal {
		return s.fn.Locals[i.N]
	}
	return s.all.Vars[i.N]
}

// told: the types that a row's word means, where it hangs on nothing but the instruction and where it stands.
func (s *site) told(i Ins, r row, word int) string {
	switch word {
	case anInt:
		return single(api.TInt)
	case aBool:
		return single(api.TBool)
	case itsValue:
		return single(i.V.Type)
	case itsPlace:
		return single(s.place(i, r.numbers))
	case itsParams:
		return stackOf(s.all.Fns[i.N].Params)
	case itsResult:
		return single(s.all.Fns[i.N].Result)
	case ownResult:
		return single(s.fn.Sig.Result)
	}
	return ""
}

// taken: the types that the instruction takes from the top of the stack, and true, if they are there.
func (s *site) taken(i Ins, r row, stack string) (string, bool) {
	switch r.takes {
	case anyOne:
		return top(stack, 1)
	case anyTwo:
		return top(stack, 2)
	}
	takes := s.told(i, r, r.takes)
	return takes, strings.HasSuffix(stack, takes)
}

func top(stack string, n int) (string, bool) {
	if len(stack) < n {
		return "", false
	}
	return stack[len(stack)-n:], true
}

// put: the types that the instruction puts onto the stack, and true, unless an operator does not take what was taken.
func (s *site) put(i Ins, r row, taken string) (string, bool) {
	if r.puts != itsMaking {
		return s.told(i, r, r.puts), true
	}
	t, e := making(i.N, taken)
	return single(t), e == api.OK
}

func making(operator int, taken string) (int, api.Errno) {
	if len(taken) == 1 {
		return types.Unary(operator, int(taken[0]))
	}
	return types.Binary(operator, int(taken[0]), int(taken[1]))
}

// stackBehind: what the instruction makes of the stack, and true, if it has there what it needs.
func (s *site) stackBehind(i Ins, r row, stack string) (string, bool) {
	taken, there := s.taken(i, r, stack)
	if !there {
		return "", false
	}
	put, fits := s.put(i, r, taken)
	return stack[:len(stack)-len(taken)] + put, fits
}
