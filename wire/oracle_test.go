package wire_test

import (
	"encoding/binary"
	"encoding/hex"
	"math"
	"reflect"
	"strings"
	"testing"

	"foundry/api"
	"foundry/wire"
)

// unhex: the bytes of hexadecimal digits, with blanks between them.
func unhex(s string) []byte {
	b, err := hex.DecodeString(strings.ReplaceAll(s, " ", ""))
	if err != nil {
		panic(err)
	}
	return b
}

// is fails unless got is want; a list without an element may be nil or empty.
func is(t *testing.T, what string, got, want any) {
	t.Helper()
	if !reflect.DeepEqual(got, want) && !bothEmpty(reflect.ValueOf(got), reflect.ValueOf(want)) {
		t.Errorf("%s: %#v, not %#v", what, got, want)
	}
}

func bothEmpty(a, b reflect.Value) bool {
	return a.Kind() == reflect.Slice && a.Type() == b.Type() && a.Len() == 0 && b.Len() == 0
}

// mixer: the same numbers in each run.
type mixer uint64

func (m *mixer) next() uint64 {
	*m += 0x9e3779b97f4a7c15
	z := uint64(*m)
	z = (z ^ z>>30) * 0xbf58476d1ce4e5b9
	z = (z ^ z>>27) * 0x94d049bb133111eb
	return z ^ z>>31
}

// below: a number from 0 on that is below n.
func (m *mixer) below(n int) int {
	return int(m.next() % uint64(n))
}

func (m *mixer) bytes(n int) []byte {
	b := make([]byte, n)
	for i := range b {
		b[i] = byte(m.next())
	}
	return b
}

// value: one value of the wire, how it is written and read, and the bytes that it is by the document's words.
type value struct {
	name  string
	bytes []byte
	want  any
	write func(w *wire.Writer)
	read  func(r *wire.Reader) any
}

func byteValue(b byte) value {
	return value{"Byte", []byte{b}, b,
		func(w *wire.Writer) { w.Byte(b) },
		func(r *wire.Reader) any { return r.Byte() }}
}

func boolValue(b bool) value {
	bytes := []byte{0}
	if b {
		bytes = []byte{1}
	}
	return value{"Bool", bytes, b,
		func(w *wire.Writer) { w.Bool(b) },
		func(r *wire.Reader) any { return r.Bool() }}
}

func shortValue(n int) value {
	return value{"Short", binary.BigEndian.AppendUint16(nil, uint16(n)), n,
		func(w *wire.Writer) { w.Short(n) },
		func(r *wire.Reader) any { return r.Short() }}
}

func intValue(n int) value {
	return value{"Int", intBytes(n), n,
		func(w *wire.Writer) { w.Int(n) },
		func(r *wire.Reader) any { return r.Int() }}
}

func longValue(n uint64) value {
	return value{"Long", binary.BigEndian.AppendUint64(nil, n), n,
		func(w *wire.Writer) { w.Long(n) },
		func(r *wire.Reader) any { return r.Long() }}
}

func textValue(s string) value {
	return value{"Text", append(intBytes(len(s)), s...), s,
		func(w *wire.Writer) { w.Text(s) },
		func(r *wire.Reader) any { return r.Text(len(s)) }}
}

func rawValue(b []byte) value {
	return value{"Raw", append(intBytes(len(b)), b...), b,
		func(w *wire.Writer) { w.Raw(b) },
		func(r *wire.Reader) any { return r.Raw(len(b)) }}
}

func intsValue(l []int) value {
	bytes := intBytes(len(l))
	for _, n := range l {
		bytes = append(bytes, intBytes(n)...)
	}
	return value{"Ints", bytes, l,
		func(w *wire.Writer) { w.Ints(l) },
		func(r *wire.Reader) any { return r.Ints(len(l)) }}
}

func textsValue(l []string) value {
	bytes, long := intBytes(len(l)), 0
	for _, s := range l {
		bytes = append(append(bytes, intBytes(len(s))...), s...)
		long = max(long, len(s))
	}
	return value{"Texts", bytes, l,
		func(w *wire.Writer) { w.Texts(l) },
		func(r *wire.Reader) any { return r.Texts(len(l), long) }}
}

func intBytes(n int) []byte {
	return binary.BigEndian.AppendUint32(nil, uint32(n))
}

// plainValues: ordinary ones of each kind, and the edges.
func plainValues() []value {
	return []value{
		byteValue(0), byteValue(1), byteValue(2), byteValue(0xff),
		boolValue(false), boolValue(true),
		shortValue(0), shortValue(1), shortValue(258), shortValue(32768), shortValue(65535),
		intValue(0), intValue(1), intValue(3), intValue(0x01020304), intValue(65536), intValue(1<<31 - 1),
		longValue(0), longValue(4), longValue(0x0102030405060708), longValue(1 << 31), longValue(1 << 63), longValue(math.MaxUint64),
		textValue(""), textValue("ab"), textValue("\x00"), textValue("h\u00e9"), textValue("\xff\xfe\x80"), textValue(strings.Repeat("x", 300)),
		rawValue(nil), rawValue([]byte{}), rawValue([]byte{0}), rawValue([]byte{1, 2, 3}), rawValue(make([]byte, 70000)),
		intsValue(nil), intsValue([]int{}), intsValue([]int{0}), intsValue([]int{1<<31 - 1, 0, 7}),
		textsValue(nil), textsValue([]string{}), textsValue([]string{""}), textsValue([]string{"", "ab", "", "c"}),
	}
}

// mixedValue: one of any kind.
func (m *mixer) mixedValue() value {
	switch m.below(9) {
	case 0:
		return byteValue(byte(m.next()))
	case 1:
		return boolValue(m.below(2) == 1)
	case 2:
		return shortValue(m.below(1 << 16))
	case 3:
		return intValue(m.below(1 << 31))
	case 4:
		return longValue(m.next())
	case 5:
		return textValue(string(m.bytes(m.below(6))))
	case 6:
		return rawValue(m.bytes(m.below(6)))
	case 7:
		l := make([]int, m.below(4))
		for i := range l {
			l[i] = m.below(1 << 31)
		}
		return intsValue(l)
	}
	l := make([]string, m.below(4))
	for i := range l {
		l[i] = string(m.bytes(m.below(4)))
	}
	return textsValue(l)
}

func (m *mixer) mixedValues(n int) []value {
	var all []value
	for range n {
		all = append(all, m.mixedValue())
	}
	return all
}

// joined: the bytes of all of them.
func joined(l []value) []byte {
	var all []byte
	for _, v := range l {
		all = append(all, v.bytes...)
	}
	return all
}

// model: a reader by the document's words, that hands its failures on as values.
type model struct {
	bytes []byte
	e     api.Errno
}

func (m *model) left() int {
	if m.e != api.OK {
		return 0
	}
	return len(m.bytes)
}

func (m *model) done() api.Errno {
	if m.e == api.OK && len(m.bytes) > 0 {
		return api.ErrMore
	}
	return m.e
}

// raw: n bytes, or none and false.
func (m *model) raw(n int) ([]byte, bool) {
	if m.e == api.OK && len(m.bytes) < n {
		m.e = api.ErrEnds
	}
	if m.e != api.OK {
		return nil, false
	}
	b := m.bytes[:n:n]
	m.bytes = m.bytes[n:]
	return b, true
}

func (m *model) byteNumber() byte {
	b, ok := m.raw(1)
	if !ok {
		return 0
	}
	return b[0]
}

func (m *model) truth() bool {
	b := m.byteNumber()
	if b > 1 {
		m.e = api.ErrValue
	}
	return b == 1
}

func (m *model) short() int {
	b, ok := m.raw(2)
	if !ok {
		return 0
	}
	return int(binary.BigEndian.Uint16(b))
}

func (m *model) long() uint64 {
	b, ok := m.raw(8)
	if !ok {
		return 0
	}
	return binary.BigEndian.Uint64(b)
}

func (m *model) number() (int, bool) {
	b, ok := m.raw(4)
	if !ok {
		return 0, false
	}
	n := binary.BigEndian.Uint32(b)
	if n > math.MaxInt32 {
		m.e = api.ErrValue
		return 0, false
	}
	return int(n), true
}

func (m *model) count(most int) (int, bool) {
	n, ok := m.number()
	if ok && n > most {
		m.e = api.ErrBig
		return 0, false
	}
	return n, ok
}

func (m *model) text(most int) string {
	n, ok := m.count(most)
	if !ok {
		return ""
	}
	b, _ := m.raw(n)
	return string(b)
}

func (m *model) ints(most int) []int {
	n, ok := m.count(most)
	var all []int
	for range n {
		var one int
		if one, ok = m.number(); !ok {
			return nil
		}
		all = append(all, one)
	}
	return all
}

func (m *model) texts(most, long int) []string {
	n, _ := m.count(most)
	var all []string
	for range n {
		one := m.text(long)
		if m.e != api.OK {
			return nil
		}
		all = append(all, one)
	}
	return all
}
