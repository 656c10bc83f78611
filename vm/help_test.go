package vm_test

import (
	"fmt"
	"math"
	"slices"
	"strconv"
	"strings"
	"testing"

	"foundry/api"
	"foundry/code"
	"foundry/floats"
	"foundry/image"
	"foundry/types"
	"foundry/vm"
)

// is fails unless got is what it has to be.
func is[T comparable](t *testing.T, what string, got, want T) {
	t.Helper()
	if got != want {
		t.Errorf("%s: %v, not %v", what, got, want)
	}
}

// isText fails unless the texts, that may be long, are alike.
func isText(t *testing.T, what, got, want string) {
	t.Helper()
	if got != want {
		t.Errorf("%s: %s, not %s", short(what), short(got), short(want))
	}
}

// short: a text as it stands in a fault's report.
func short(text string) string {
	if len(text) <= 1200 {
		return text
	}
	return text[:1200] + ".."
}

func num(n int64) api.Value {
	return api.Value{Type: api.TInt, Bits: uint64(n)}
}

func float(f float64) api.Value {
	return api.Value{Type: api.TFloat, Bits: math.Float64bits(f)}
}

func truth(bits uint64) api.Value {
	return api.Value{Type: api.TBool, Bits: bits}
}

func times[T any](n int, x T) []T {
	return slices.Repeat([]T{x}, n)
}

// numbers: an input of n unlike numbers.
func numbers(n int) []int64 {
	l := make([]int64, n)
	for at := range l {
		l[at] = int64(100 + at)
	}
	return l
}

// opWords: the instructions by their numbers, written down once more.
func opWords() []string {
	return []string{1: "push", 2: "get", 3: "put", 4: "load", 5: "store", 6: "un", 7: "bin", 8: "jump", 9: "unless", 10: "call",
		11: "return", 12: "show", 13: "fail", 14: "input", 15: "try", 16: "untry", 17: "drop"}
}

// operatorWords: those of one, and those of two, by their numbers.
func operatorWords(op int) []string {
	if op == 6 {
		return []string{1: "neg", 2: "not", 3: "int", 4: "float"}
	}
	return []string{1: "+", 2: "-", 3: "*", 4: "/", 5: "%", 6: "==", 7: "!=", 8: "<", 9: "<=", 10: ">", 11: ">="}
}

// asm: the instructions of a text, with a semicolon between two; of push 1 is an int, true a bool, 1.5 a float, of un and bin the operand is a word, the others are numbers.
func asm(text string) []code.Ins {
	var l []code.Ins
	for line := range strings.SplitSeq(text, ";") {
		words := strings.Fields(line)
		if len(words) == 0 {
			continue
		}
		i := code.Ins{Op: slices.Index(opWords(), words[0])}
		switch {
		case i.Op < 1:
			panic("no instruction: " + line)
		case i.Op == 1:
			i.V = asmValue(words[1])
		case i.Op == 6 || i.Op == 7:
			i.N = slices.Index(operatorWords(i.Op), words[1])
		case len(words) > 1:
			n, err := strconv.Atoi(words[1])
			if err != nil {
				panic("no operand: " + line)
			}
			i.N = n
		}
		l = append(l, i)
	}
	return l
}

func asmValue(word string) api.Value {
	switch word {
	case "false":
		return truth(0)
	case "true":
		return truth(1)
	case "nan":
		return api.Value{Type: api.TFloat, Bits: floats.NaN}
	}
	if n, err := strconv.ParseInt(word, 10, 64); err == nil {
		return num(n)
	}
	f, err := strconv.ParseFloat(word, 64)
	if err != nil {
		panic("no value: " + word)
	}
	return float(f)
}

// typesOf: types by their first letters.
func typesOf(letters string) []int {
	var l []int
	for _, r := range letters {
		l = append(l, strings.IndexRune("nifb", r))
	}
	return l
}

// fn: a function out of its signature, its locals behind the parameters, its code: "if:b" takes an int and a float and has a bool as its result.
func fn(signature, locals, text string) code.Fn {
	params, result, _ := strings.Cut(signature, ":")
	f := code.Fn{Sig: code.Sig{Params: typesOf(params)}, Locals: typesOf(params + locals), Code: asm(text)}
	if result != "" {
		f.Sig.Result = typesOf(result)[0]
	}
	return f
}

// img: an image of functions, that begins at the first one.
func img(fns ...code.Fn) image.Image {
	return image.Image{Fns: fns}
}

// just: an image of one function, without locals.
func just(text string) image.Image {
	return img(fn(":i", "", text))
}

// withVars: the image with these variables.
func withVars(i image.Image, l ...api.Value) image.Image {
	i.Vars = l
	return i
}

// from: the image, begun at another function.
func from(main int, i image.Image) image.Image {
	i.Main = main
	return i
}

// begun: a machine of an image that has to be right.
func begun(t *testing.T, i image.Image, input ...int64) *vm.Machine {
	t.Helper()
	m, e := vm.New(i, input)
	if e != api.OK || m == nil {
		t.Fatalf("New answers %d, %v, of %s", int(e), m != nil, short(image.Text(i)))
	}
	return m
}

// after: a machine that has run so many steps.
func after(t *testing.T, steps int, i image.Image, input ...int64) *vm.Machine {
	t.Helper()
	m := begun(t, i, input...)
	for steps > 0 {
		fuel := min(steps, api.MaxFuel)
		_, _, e := m.Run(fuel)
		is(t, "Run", e, api.OK)
		steps -= fuel
	}
	return m
}

// valuesTold: values as types.Show tells them; those of unlike types look unlike.
func valuesTold(l []api.Value) string {
	words := make([]string, len(l))
	for at, v := range l {
		words[at] = types.Show(v)
		if !types.Right(v) {
			words[at] = fmt.Sprintf("WRONG %d %x", v.Type, v.Bits)
		}
	}
	return strings.Join(words, " ")
}

// rightValues fails unless each of the values is one.
func rightValues(t *testing.T, l []api.Value) {
	t.Helper()
	for _, v := range l {
		if !types.Right(v) {
			t.Errorf("no value: %+v", v)
		}
	}
}

// framesTold: of each frame its function, where it is, its locals, its stack, how many tries are open.
func framesTold(l []vm.Frame) string {
	words := make([]string, len(l))
	for at, f := range l {
		words[at] = fmt.Sprintf("%d@%d(%s)[%s]%d", f.Fn, f.At, valuesTold(f.Locals), valuesTold(f.Stack), f.Tries)
	}
	return strings.Join(words, " ")
}

func outcomeTold(o api.Outcome) string {
	switch {
	case o == api.Outcome{Kind: api.Running}:
		return "running"
	case o == api.Outcome{Kind: api.Halted, Value: o.Value}:
		return fmt.Sprint("halted ", o.Value)
	case o == api.Outcome{Kind: api.Trapped, Trap: o.Trap, Value: o.Value}:
		return fmt.Sprint("trapped ", o.Trap, " ", o.Value)
	}
	return fmt.Sprintf("WRONG %+v", o)
}

// runTold: what Run answers, as one text.
func runTold(l []api.Value, o api.Outcome, e api.Errno) string {
	return fmt.Sprintf("(%s) %s %d", valuesTold(l), outcomeTold(o), int(e))
}

// told: all that a machine tells, as one text.
func told(m *vm.Machine) string {
	return stateTold(m.Outcome(), m.Steps(), m.Taken(), m.Trace(), m.Vars(), m.Frames())
}

func stateTold(o api.Outcome, steps, taken int, trace, vars []api.Value, frames []vm.Frame) string {
	return fmt.Sprintf("%s, %d steps, %d taken, frames %s, vars (%s), trace (%s)", outcomeTold(o), steps, taken, framesTold(frames), valuesTold(vars), valuesTold(trace))
}

// walked: the frames ahead of each of the first steps, and what each step did beside: how the machine stands at its end.
func walked(m *vm.Machine, most int) string {
	var text strings.Builder
	for range most {
		text.WriteString(framesTold(m.Frames()))
		vars, taken := valuesTold(m.Vars()), m.Taken()
		shown, o, e := m.Run(1)
		if e != api.OK {
			return text.String() + " ERROR " + e.Error()
		}
		if len(shown) > 0 {
			text.WriteString(" shows " + valuesTold(shown))
		}
		if m.Taken() != taken {
			fmt.Fprintf(&text, " takes %d", m.Taken()-taken)
		}
		if now := valuesTold(m.Vars()); now != vars {
			text.WriteString(" vars " + now)
		}
		text.WriteString(" / ")
		if o.Kind != api.Running {
			break
		}
	}
	text.WriteString(outcomeTold(m.Outcome()))
	if frames := framesTold(m.Frames()); frames != "" {
		text.WriteString(" " + frames)
	}
	return text.String()
}

// walksSo fails unless the machine goes these ways, told as walked does.
func walksSo(t *testing.T, what string, m *vm.Machine, want ...string) {
	t.Helper()
	isText(t, what, walked(m, 200), strings.Join(want, " / "))
}

// spared: the list by itself, with something in its spare room.
func spared[T any](l []T, spare T) []T {
	c := append(make([]T, 0, len(l)+2), l...)
	return append(c, spare, spare)[:len(l)]
}

// roomy: the image in memory of its own, with spare room in each list.
func roomy(i image.Image) image.Image {
	i.Vars, i.Fns = spared(i.Vars, num(77)), spared(i.Fns, code.Fn{Locals: []int{77}})
	for at := range i.Fns {
		f := &i.Fns[at]
		f.Sig.Params, f.Locals, f.Code = spared(f.Sig.Params, 77), spared(f.Locals, 77), spared(f.Code, code.Ins{Op: 77})
	}
	return i
}

// whole: all that the image has, what stands in the spare room too.
func whole(i image.Image) string {
	text := fmt.Sprintf("%d %d %+v %d", i.Main, len(i.Vars), i.Vars[:cap(i.Vars)], len(i.Fns))
	for _, f := range i.Fns[:cap(i.Fns)] {
		text += fmt.Sprintf("\n%d %d %v %d %v %d %+v", f.Sig.Result, len(f.Sig.Params), f.Sig.Params[:cap(f.Sig.Params)],
			len(f.Locals), f.Locals[:cap(f.Locals)], len(f.Code), f.Code[:cap(f.Code)])
	}
	return text
}
