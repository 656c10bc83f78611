package code_test

import (
	"fmt"
	"math"
	"slices"
	"strconv"
	"strings"
	"testing"

	"foundry/api"
	"foundry/code"
	"foundry/floats"
)

// The table's rows, written down once more: a mistake in the package's own table is none here.

type opRow struct {
	name        string
	bytes       int // behind the Op's one
	least, most int // of N
}

var opRows = []opRow{
	1: {"push", 9, 0, 0}, 2: {"get", 1, 0, 255}, 3: {"put", 1, 0, 255}, 4: {"load", 2, 0, 65535}, 5: {"store", 2, 0, 65535},
	6: {"un", 1, 1, 4}, 7: {"bin", 1, 1, 11}, 8: {"jump", 2, 0, 65535}, 9: {"unless", 2, 0, 65535}, 10: {"call", 2, 0, 65535},
	11: {"return", 0, 0, 0}, 12: {"show", 0, 0, 0}, 13: {"fail", 0, 0, 0}, 14: {"input", 0, 0, 0}, 15: {"try", 2, 0, 65535},
	16: {"untry", 0, 0, 0}, 17: {"drop", 0, 0, 0},
}

const lastOp = 17

var (
	unWords  = []string{1: "neg", 2: "not", 3: "int", 4: "float"}
	binWords = []string{1: "+", 2: "-", 3: "*", 4: "/", 5: "%", 6: "==", 7: "!=", 8: "<", 9: "<=", 10: ">", 11: ">="}
)

// is fails unless got is what it has to be.
func is[T comparable](t *testing.T, what string, got, want T) {
	t.Helper()
	if got != want {
		t.Errorf("%s: %v, not %v", what, got, want)
	}
}

func num(n int64) api.Value {
	return api.Value{Type: api.TInt, Bits: uint64(n)}
}

func float(f float64) api.Value {
	return api.Value{Type: api.TFloat, Bits: math.Float64bits(f)}
}

func truth(b bool) api.Value {
	if b {
		return api.Value{Type: api.TBool, Bits: 1}
	}
	return api.Value{Type: api.TBool}
}

func push(v api.Value) code.Ins {
	return code.Ins{Op: 1, V: v}
}

// asm: the instructions of a text, with a semicolon between two; of push 1 is an int, true a bool, 1.5 a float.
func asm(text string) []code.Ins {
	var l []code.Ins
	for line := range strings.SplitSeq(text, ";") {
		if words := strings.Fields(line); len(words) > 0 {
			l = append(l, asmOne(words[0], strings.Join(words[1:], " ")))
		}
	}
	return l
}

func asmOne(name, operand string) code.Ins {
	op := slices.IndexFunc(opRows, func(r opRow) bool { return r.name == name })
	i := code.Ins{Op: op}
	var err error
	switch {
	case op < 1:
		panic("no instruction: " + name)
	case op == 1:
		i.V = asmValue(operand)
	case op == 6:
		i.N = slices.Index(unWords, operand)
	case op == 7:
		i.N = slices.Index(binWords, operand)
	case opRows[op].bytes > 0:
		i.N, err = strconv.Atoi(operand)
	}
	if err != nil || i.N < 0 {
		panic("no operand: " + name + " " + operand)
	}
	return i
}

func asmValue(word string) api.Value {
	if word == "true" || word == "false" {
		return truth(word == "true")
	}
	if n, err := strconv.ParseInt(word, 10, 64); err == nil {
		return num(n)
	}
	f, err := strconv.ParseFloat(word, 64)
	if err != nil {
		panic("no value: " + word)
	}
	return float(f)
}

// many: n times the instructions of a text.
func many(n int, text string) []code.Ins {
	return slices.Repeat(asm(text), n)
}

func cat(parts ...[]code.Ins) []code.Ins {
	return slices.Concat(parts...)
}

// typeLetters: types by their first letters; n is TNone.
const typeLetters = "nifb"

func typesOf(letters string) []int {
	var l []int
	for _, r := range letters {
		l = append(l, strings.IndexRune(typeLetters, r))
	}
	return l
}

// sig: a signature out of letters: "if:b" takes an int and a float and has a bool as its result.
func sig(text string) code.Sig {
	params, result, _ := strings.Cut(text, ":")
	s := code.Sig{Params: typesOf(params)}
	if result != "" {
		s.Result = typesOf(result)[0]
	}
	return s
}

// fn: a function out of its signature, its locals behind the parameters, its code.
func fn(signature, locals, text string) code.Fn {
	return fnOf(signature, locals, asm(text))
}

func fnOf(signature, locals string, l []code.Ins) code.Fn {
	s := sig(signature)
	return code.Fn{Sig: s, Locals: append(slices.Clone(s.Params), typesOf(locals)...), Code: l}
}

// frame: a program out of signatures, with a blank between two, and the variables' types.
func frame(signatures, vars string) code.Frame {
	p := code.Frame{Vars: typesOf(vars)}
	for _, s := range strings.Fields(signatures) {
		p.Fns = append(p.Fns, sig(s))
	}
	return p
}

// key: all that an instruction, a function, a program has, lists without an element being alike.
func key(v any) string {
	return strings.NewReplacer("[]int(nil)", "[]int{}", "[]code.Ins(nil)", "[]code.Ins{}", "[]code.Sig(nil)", "[]code.Sig{}", "[]uint8(nil)", "[]uint8{}", "[]byte(nil)", "[]byte{}").Replace(fmt.Sprintf("%#v", v))
}

// told: what Verify answers, as one text.
func told(at int, e api.Errno) string {
	return fmt.Sprint(at, " ", int(e))
}

func ok() string {
	return told(0, api.OK)
}

// shapeTold: what Shape answers, as one text.
func shapeTold(stack []int, tries int, there bool) string {
	return fmt.Sprint(append([]int{}, stack...), tries, there)
}

func noShape() string {
	return shapeTold(nil, 0, false)
}

// verifies fails unless Verify answers so.
func verifies(t *testing.T, what string, f code.Fn, p code.Frame, at int, e api.Errno) {
	t.Helper()
	if got := told(code.Verify(f, p)); got != told(at, e) {
		t.Errorf("%s: %s, not %s, of\n%s", what, got, told(at, e), shortTexts(f.Code))
	}
}

func shortTexts(l []code.Ins) string {
	if len(l) <= 40 {
		return code.Texts(l)
	}
	return code.Texts(l[:20]) + "..\n"
}

// shapeIs fails unless Shape answers so; the stack is told by letters.
func shapeIs(t *testing.T, f code.Fn, p code.Frame, at int, stack string, tries int) {
	t.Helper()
	is(t, fmt.Sprintf("Shape at %d of\n%s", at, shortTexts(f.Code)), shapeTold(code.Shape(f, p, at)), shapeTold(typesOf(stack), tries, true))
}

func noShapeAt(t *testing.T, f code.Fn, p code.Frame, at int) {
	t.Helper()
	is(t, fmt.Sprintf("Shape at %d of\n%s", at, shortTexts(f.Code)), shapeTold(code.Shape(f, p, at)), noShape())
}

// rightValues: values of each type, the edges too, no two alike.
func rightValues() []api.Value {
	l := []api.Value{truth(false), truth(true)}
	for _, n := range []int64{0, 1, 2, -1, 255, 256, 0x0102030405060708, math.MinInt64, math.MaxInt64} {
		l = append(l, num(n))
	}
	for _, f := range []float64{0, math.Copysign(0, -1), 1, -1, 1.5, 0.1, math.MaxFloat64, math.SmallestNonzeroFloat64, math.Inf(1), math.Inf(-1)} {
		l = append(l, float(f))
	}
	return append(l, api.Value{Type: api.TFloat, Bits: floats.NaN})
}

// wrongValues: values that are not right; the zero one is among them.
func wrongValues() []api.Value {
	return []api.Value{
		{}, {Bits: 1}, {Type: 4}, {Type: -1}, {Type: 257, Bits: 1}, {Type: 1 << 32}, {Type: math.MinInt}, {Type: math.MaxInt},
		{Type: api.TBool, Bits: 2}, {Type: api.TBool, Bits: math.MaxUint64}, {Type: api.TBool, Bits: 1 << 32},
		{Type: api.TFloat, Bits: floats.NaN + 1}, {Type: api.TFloat, Bits: 0x7ff0000000000001}, {Type: api.TFloat, Bits: 0xfff8000000000001}, {Type: api.TFloat, Bits: math.MaxUint64},
	}
}

// strangeOps: no Ops, some of which would be one in a byte.
func strangeOps() []int {
	return []int{0, -1, lastOp + 1, 128, 255, 256, 257, 267, 1<<32 + 1, math.MinInt, math.MinInt + 1, math.MaxInt}
}

// rightIns: each Op with its operands at their bounds and between them; no two alike.
func rightIns() []code.Ins {
	var l []code.Ins
	for _, v := range rightValues() {
		l = append(l, push(v))
	}
	for op := 2; op <= lastOp; op++ {
		r := opRows[op]
		for _, n := range []int{r.least, r.least + 1, 2, 3, 5, 7, 10, 11, 127, 128, 254, 255, 256, 257, 258, 4095, 4096, 32768, r.most - 1, r.most} {
			i := code.Ins{Op: op, N: n}
			if r.least <= n && n <= r.most && !slices.Contains(l, i) {
				l = append(l, i)
			}
		}
	}
	return l
}

// wrongIns: instructions that are not right.
func wrongIns() []code.Ins {
	var l []code.Ins
	for _, v := range wrongValues() {
		l = append(l, push(v))
	}
	for _, op := range strangeOps() {
		l = append(l, code.Ins{Op: op}, code.Ins{Op: op, N: 1}, code.Ins{Op: op, V: num(1)})
	}
	for op := 1; op <= lastOp; op++ {
		r, i := opRows[op], code.Ins{Op: op}
		if op == 1 {
			i.V = num(1)
		}
		for _, n := range []int{r.least - 1, r.most + 1, -1, 65536, math.MinInt, math.MaxInt, 1 << 32} {
			i.N = n
			l = append(l, i)
		}
		if op == 1 {
			continue
		}
		for _, v := range append(rightValues(), wrongValues()[1:]...) {
			l = append(l, code.Ins{Op: op, N: r.least, V: v})
		}
	}
	return l
}

// mixer: the same numbers in each run.
type mixer uint64

func (m *mixer) next() uint64 {
	*m += 0x9e3779b97f4a7c15
	z := uint64(*m)
	z = (z ^ z>>30) * 0xbf58476d1ce4e5b9
	z = (z ^ z>>27) * 0x94d049bb133111eb
	return z ^ z>>31
}

// below: a number from 0 on that is below n.
func (m *mixer) below(n int) int {
	return int(m.next() % uint64(n))
}

func pick[T any](m *mixer, l []T) T {
	return l[m.below(len(l))]
}

// spared: the list by itself, with something in its spare room.
func spared[T any](l []T, spare T) []T {
	c := append(make([]T, 0, len(l)+2), l...)
	return append(c, spare, spare)[:len(l)]
}
