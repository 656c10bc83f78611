package wire_test

import (
	"bytes"
	"math"
	"slices"
	"testing"

	"foundry/wire"
)

// P301

func TestTheZeroWriterHasWrittenNothing(t *testing.T) {
	var w wire.Writer
	is(t, "Len", w.Len(), 0)
	is(t, "Bytes", len(w.Bytes()), 0)
	w.Byte(7)
	is(t, "Bytes", w.Bytes(), []byte{7})
}

func TestEachCallPutsItsValueBehindWhatIsThere(t *testing.T) {
	var w wire.Writer
	var want []byte
	for _, v := range plainValues() {
		v.write(&w)
		want = append(want, v.bytes...)
		is(t, "Len behind "+v.name, w.Len(), len(want))
		if !bytes.Equal(w.Bytes(), want) {
			t.Fatalf("%s of %#x: %x", v.name, v.want, w.Bytes())
		}
	}
}

func TestTheBytesOfEachValue(t *testing.T) {
	for _, x := range []struct {
		want  string
		write func(w *wire.Writer)
	}{
		{"00", func(w *wire.Writer) { w.Byte(0) }},
		{"ff", func(w *wire.Writer) { w.Byte(255) }},
		{"00", func(w *wire.Writer) { w.Bool(false) }},
		{"01", func(w *wire.Writer) { w.Bool(true) }},
		{"0102", func(w *wire.Writer) { w.Short(258) }},
		{"ffff", func(w *wire.Writer) { w.Short(65535) }},
		{"01020304", func(w *wire.Writer) { w.Int(0x01020304) }},
		{"7fffffff", func(w *wire.Writer) { w.Int(1<<31 - 1) }},
		{"0102030405060708", func(w *wire.Writer) { w.Long(0x0102030405060708) }},
		{"8000000000000000", func(w *wire.Writer) { w.Long(1 << 63) }},
		{"ffffffffffffffff", func(w *wire.Writer) { w.Long(math.MaxUint64) }},
		{"00000000", func(w *wire.Writer) { w.Text("") }},
		{"00000003 ff0041", func(w *wire.Writer) { w.Text("\xff\x00A") }},
		{"00000000", func(w *wire.Writer) { w.Raw(nil) }},
		{"00000000", func(w *wire.Writer) { w.Raw([]byte{}) }},
		{"00000002 0900", func(w *wire.Writer) { w.Raw([]byte{9, 0}) }},
		{"00000000", func(w *wire.Writer) { w.Ints(nil) }},
		{"00000002 00000005 00010000", func(w *wire.Writer) { w.Ints([]int{5, 65536}) }},
		{"00000000", func(w *wire.Writer) { w.Texts(nil) }},
		{"00000003 00000000 00000002 6162 00000001 63", func(w *wire.Writer) { w.Texts([]string{"", "ab", "c"}) }},
	} {
		var w wire.Writer
		x.write(&w)
		is(t, "Bytes", w.Bytes(), unhex(x.want))
	}
}

func TestShortAndIntWriteTheLowestBits(t *testing.T) {
	for _, x := range []struct {
		n            int
		short, whole string
	}{
		{-1, "ffff", "7fffffff"},
		{-2, "fffe", "7ffffffe"},
		{-65536, "0000", "7fff0000"},
		{-65537, "ffff", "7ffeffff"},
		{65536, "0000", "00010000"},
		{65537, "0001", "00010001"},
		{1<<31 - 1, "ffff", "7fffffff"},
		{1 << 31, "0000", "00000000"},
		{1<<31 + 5, "0005", "00000005"},
		{1<<32 - 1, "ffff", "7fffffff"},
		{-1 << 31, "0000", "00000000"},
		{-1<<31 - 1, "ffff", "7fffffff"},
		{math.MaxInt64, "ffff", "7fffffff"},
		{math.MinInt64, "0000", "00000000"},
		{math.MinInt64 + 1, "0001", "00000001"},
	} {
		var short, whole, list wire.Writer
		short.Short(x.n)
		is(t, "Short", short.Bytes(), unhex(x.short))
		whole.Int(x.n)
		is(t, "Int", whole.Bytes(), unhex(x.whole))
		list.Ints([]int{x.n, 1, x.n})
		is(t, "Ints", list.Bytes(), unhex("00000003"+x.whole+"00000001"+x.whole))
	}
}

func TestBytesIsNewMemoryEachTime(t *testing.T) {
	var w wire.Writer
	for n := range 70 {
		w.Byte(byte(n))
		before := w.Bytes()
		first := w.Bytes()
		spoil(first)
		is(t, "Bytes behind a change of what was handed out", w.Bytes(), before)
		w.Byte(0xee)
		is(t, "what was handed out ahead of a call", before[n*2:], []byte{byte(n)})
		spoil(before)
		is(t, "the last of Bytes", w.Bytes()[w.Len()-2:], []byte{byte(n), 0xee})
	}
}

// spoil writes into all of the list, its spare room too.
func spoil[T comparable](l []T) {
	whole := l[:cap(l)]
	var zero T
	for i := range whole {
		whole[i] = zero
	}
}

func TestAWriterNeitherChangesNorKeepsWhatItIsGiven(t *testing.T) {
	var w wire.Writer
	raw := append(make([]byte, 0, 8), 1, 2, 3)
	numbers := append(make([]int, 0, 8), -1, 2, 1<<31)
	texts := append(make([]string, 0, 8), "a", "")
	whole := slices.Clone(raw[:cap(raw)])
	w.Raw(raw)
	w.Ints(numbers)
	w.Texts(texts)
	is(t, "raw bytes", raw[:cap(raw)], whole)
	is(t, "ints", numbers[:cap(numbers)], []int{-1, 2, 1 << 31, 0, 0, 0, 0, 0})
	is(t, "texts", texts[:cap(texts)], []string{"a", "", "", "", "", "", "", ""})
	before := w.Bytes()
	spoil(raw)
	spoil(numbers)
	spoil(texts)
	is(t, "Bytes", w.Bytes(), before)
}

func TestTwoWritersShareNothing(t *testing.T) {
	var a, b wire.Writer
	for n := range 40 {
		a.Byte(byte(n))
		b.Raw(a.Bytes())
	}
	one, other := a.Bytes(), b.Bytes()
	a.Text("only here")
	is(t, "the other", b.Bytes(), other)
	is(t, "this one", a.Bytes()[:len(one)], one)
}

func TestANilWriterTakesNothing(t *testing.T) {
	var w *wire.Writer
	for _, v := range plainValues() {
		v.write(w)
		is(t, "Len", w.Len(), 0)
		is(t, "Bytes", len(w.Bytes()), 0)
	}
}
