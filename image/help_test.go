package image_test

import (
	"encoding/hex"
	"fmt"
	"math"
	"slices"
	"strconv"
	"strings"
	"testing"

	"foundry/api"
	"foundry/code"
	"foundry/floats"
	"foundry/image"
)

// is fails unless got is what it has to be.
func is[T comparable](t *testing.T, what string, got, want T) {
	t.Helper()
	if got != want {
		t.Errorf("%s: %v, not %v", what, got, want)
	}
}

func num(n int64) api.Value {
	return api.Value{Type: api.TInt, Bits: uint64(n)}
}

func float(f float64) api.Value {
	return api.Value{Type: api.TFloat, Bits: math.Float64bits(f)}
}

func truth(bits uint64) api.Value {
	return api.Value{Type: api.TBool, Bits: bits}
}

func times[T any](n int, x T) []T {
	return slices.Repeat([]T{x}, n)
}

// opWords: the instructions by their numbers, written down once more.
func opWords() []string {
	return []string{1: "push", 2: "get", 3: "put", 4: "load", 5: "store", 6: "un", 7: "bin", 8: "jump", 9: "unless", 10: "call",
		11: "return", 12: "show", 13: "fail", 14: "input", 15: "try", 16: "untry", 17: "drop"}
}

// asm: the instructions of a text, with a semicolon between two; of push 1 is an int, true a bool, 1.5 a float, the other operands are numbers.
func asm(text string) []code.Ins {
	var l []code.Ins
	for line := range strings.SplitSeq(text, ";") {
		words := strings.Fields(line)
		if len(words) == 0 {
			continue
		}
		i := code.Ins{Op: slices.Index(opWords(), words[0])}
		switch {
		case i.Op < 1:
			panic("no instruction: " + line)
		case i.Op == 1:
			i.V = asmValue(words[1])
		case len(words) > 1:
			n, err := strconv.Atoi(words[1])
			if err != nil {
				panic("no operand: " + line)
			}
			i.N = n
		}
		l = append(l, i)
	}
	return l
}

func asmValue(word string) api.Value {
	switch word {
	case "false":
		return truth(0)
	case "true":
		return truth(1)
	}
	if n, err := strconv.ParseInt(word, 10, 64); err == nil {
		return num(n)
	}
	f, err := strconv.ParseFloat(word, 64)
	if err != nil {
		panic("no value: " + word)
	}
	return float(f)
}

// typesOf: types by their first letters; n is TNone.
func typesOf(letters string) []int {
	var l []int
	for _, r := range letters {
		l = append(l, strings.IndexRune("nifb", r))
	}
	return l
}

// fn: a function out of its signature, its locals behind the parameters, its code: "if:b" takes an int and a float and has a bool as its result.
func fn(signature, locals, text string) code.Fn {
	params, result, _ := strings.Cut(signature, ":")
	f := code.Fn{Sig: code.Sig{Params: typesOf(params)}, Locals: typesOf(params + locals), Code: asm(text)}
	if result != "" {
		f.Sig.Result = typesOf(result)[0]
	}
	return f
}

// five: the function of the chapter's first example.
func five() code.Fn {
	return fn(":i", "", "push 5; return")
}

// img: an image of functions, that begins at the first one.
func img(fns ...code.Fn) image.Image {
	return image.Image{Fns: fns}
}

// withVars: the image with these variables.
func withVars(i image.Image, l ...api.Value) image.Image {
	i.Vars = l
	return i
}

// from: the image, begun at another function.
func from(main int, i image.Image) image.Image {
	i.Main = main
	return i
}

// copied: the image in memory of its own, all but the numbers and values.
func copied(i image.Image) image.Image {
	i.Vars, i.Fns = slices.Clone(i.Vars), slices.Clone(i.Fns)
	for at := range i.Fns {
		f := &i.Fns[at]
		f.Sig.Params, f.Locals, f.Code = slices.Clone(f.Sig.Params), slices.Clone(f.Locals), slices.Clone(f.Code)
	}
	return i
}

// rightValues: values of each type, the edges too, no two alike.
func rightValues() []api.Value {
	l := []api.Value{truth(0), truth(1), {Type: api.TFloat, Bits: floats.NaN}}
	for _, n := range []int64{0, 1, 2, -1, -2, 255, 256, 0x0102030405060708, math.MinInt64, math.MaxInt64} {
		l = append(l, num(n))
	}
	for _, f := range []float64{0, math.Copysign(0, -1), 1, -1, 1.5, 0.1, math.MaxFloat64, math.SmallestNonzeroFloat64, math.Inf(1), math.Inf(-1)} {
		l = append(l, float(f))
	}
	return l
}

func wrongValues() []api.Value {
	return []api.Value{
		{}, {Bits: 1}, {Type: 4}, {Type: -1}, {Type: 257, Bits: 1}, {Type: 1<<32 + 1}, {Type: math.MinInt}, {Type: math.MaxInt},
		truth(2), truth(256), truth(math.MaxUint64), {Type: api.TFloat, Bits: floats.NaN + 1}, {Type: api.TFloat, Bits: 0x7ff0000000000001}, {Type: api.TFloat, Bits: 0xfff8000000000000},
	}
}

// strangeTypes: numbers that are no types of values and not TNone, some of which would be one in a byte.
func strangeTypes() []int {
	return []int{-1, 4, 5, 127, 128, 255, 256, 257, 258, 1<<16 + 1, 1<<32 + 1, math.MinInt, math.MinInt + 1, math.MaxInt}
}

// sigKey: all that a signature has.
func sigKey(s code.Sig) string {
	return fmt.Sprint(s.Params, s.Result)
}

// key: all that an image has, lists without an element being alike; unlike images have unlike keys.
func key(i image.Image) string {
	var text strings.Builder
	fmt.Fprintf(&text, "image %d %d %d", len(i.Vars), len(i.Fns), i.Main)
	for _, v := range i.Vars {
		fmt.Fprintf(&text, "\nvar %d %x", v.Type, v.Bits)
	}
	for _, f := range i.Fns {
		fmt.Fprintf(&text, "\nfn %s %v %+v", sigKey(f.Sig), f.Locals, f.Code)
	}
	return text.String()
}

// frameKey: all that a frame has.
func frameKey(p code.Frame) string {
	text := fmt.Sprint("frame ", len(p.Fns), p.Vars)
	for _, s := range p.Fns {
		text += "\n" + sigKey(s)
	}
	return text
}

// short: a text as it stands in a fault's report.
func short(text string) string {
	if len(text) <= 600 {
		return text
	}
	return text[:600] + ".."
}

// unhex: the bytes that are written in a text, blanks aside.
func unhex(text string) []byte {
	b, err := hex.DecodeString(strings.ReplaceAll(text, " ", ""))
	if err != nil {
		panic(err)
	}
	return b
}

// packed: what Pack answers, as one text.
func packed(i image.Image) string {
	return bytesTold(image.Pack(i))
}

func bytesTold(b []byte, e api.Errno) string {
	return fmt.Sprintf("%x %d", b, int(e))
}

// unpacked: what Unpack answers, as one text.
func unpacked(b []byte) string {
	return imageTold(image.Unpack(b))
}

func imageTold(i image.Image, e api.Errno) string {
	return fmt.Sprint(key(i), " ", int(e))
}

func noImage() string {
	return imageTold(image.Image{}, api.ErrImage)
}

func tooBig() string {
	return imageTold(image.Image{}, api.ErrBig)
}

// isText fails unless the texts, that may be long, are alike.
func isText(t *testing.T, what, got, want string) {
	t.Helper()
	if got != want {
		t.Errorf("%s: %s, not %s", short(what), short(got), short(want))
	}
}

// rightIs fails unless Right answers so.
func rightIs(t *testing.T, what string, i image.Image, want api.Errno) {
	t.Helper()
	if got := image.Right(i); got != want {
		t.Errorf("%s: Right answers %d, not %d, of %s", what, int(got), int(want), short(key(i)))
	}
}

// spared: the list by itself, with something in its spare room.
func spared[T any](l []T, spare T) []T {
	c := append(make([]T, 0, len(l)+2), l...)
	return append(c, spare, spare)[:len(l)]
}

// roomy: the image in memory of its own, with spare room in each list.
func roomy(i image.Image) image.Image {
	i.Vars, i.Fns = spared(i.Vars, num(77)), spared(i.Fns, code.Fn{Locals: []int{77}})
	for at := range i.Fns {
		f := &i.Fns[at]
		f.Sig.Params, f.Locals, f.Code = spared(f.Sig.Params, 77), spared(f.Locals, 77), spared(f.Code, code.Ins{Op: 77})
	}
	return i
}

// whole: all that the image has, what stands in the spare room too.
func whole(i image.Image) string {
	text := fmt.Sprintf("%d %d %+v %d", i.Main, len(i.Vars), i.Vars[:cap(i.Vars)], len(i.Fns))
	for _, f := range i.Fns[:cap(i.Fns)] {
		text += fmt.Sprintf("\n%d %d %v %d %v %d %+v", f.Sig.Result, len(f.Sig.Params), f.Sig.Params[:cap(f.Sig.Params)],
			len(f.Locals), f.Locals[:cap(f.Locals)], len(f.Code), f.Code[:cap(f.Code)])
	}
	return text
}
