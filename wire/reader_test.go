package wire_test

import (
	"bytes"
	"math"
	"testing"

	"foundry/api"
	"foundry/wire"
)

// call: one of a reader, by its name.
type call struct {
	name string
	read func(r *wire.Reader) any
	zero any
}

// calls: each that takes a value, with room for all that may come.
func calls() []call {
	return []call{
		{"Byte", func(r *wire.Reader) any { return r.Byte() }, byte(0)},
		{"Bool", func(r *wire.Reader) any { return r.Bool() }, false},
		{"Short", func(r *wire.Reader) any { return r.Short() }, 0},
		{"Int", func(r *wire.Reader) any { return r.Int() }, 0},
		{"Long", func(r *wire.Reader) any { return r.Long() }, uint64(0)},
		{"Text", func(r *wire.Reader) any { return r.Text(math.MaxInt) }, ""},
		{"Raw", func(r *wire.Reader) any { return r.Raw(math.MaxInt) }, []byte(nil)},
		{"Ints", func(r *wire.Reader) any { return r.Ints(math.MaxInt) }, []int(nil)},
		{"Texts", func(r *wire.Reader) any { return r.Texts(math.MaxInt, math.MaxInt) }, []string(nil)},
	}
}

// withMost: each call that has a most.
func withMost() map[string]func(r *wire.Reader, most int) any {
	return map[string]func(r *wire.Reader, most int) any{
		"Text":  func(r *wire.Reader, most int) any { return r.Text(most) },
		"Raw":   func(r *wire.Reader, most int) any { return r.Raw(most) },
		"Ints":  func(r *wire.Reader, most int) any { return r.Ints(most) },
		"Texts": func(r *wire.Reader, most int) any { return r.Texts(most, 100) },
	}
}

// failsWith fails unless the reader has failed with that error, and takes nothing any more.
func failsWith(t *testing.T, what string, r *wire.Reader, e api.Errno) {
	t.Helper()
	for range 2 {
		is(t, what+": Error", r.Error(), e)
		is(t, what+": Done", r.Done(), e)
		is(t, what+": Left", r.Left(), 0)
		for _, c := range calls() {
			is(t, what+": "+c.name+" behind it", c.read(r), c.zero)
		}
		r.Fail(api.ErrObject)
	}
}

// answers fails unless the call on those bytes answers want, with that error and that many bytes left.
func answers(t *testing.T, digits string, read func(r *wire.Reader) any, want any, e api.Errno, left int) {
	t.Helper()
	r := wire.Read(unhex(digits))
	is(t, digits, read(r), want)
	is(t, digits+": Error", r.Error(), e)
	is(t, digits+": Left", r.Left(), left)
	if e != api.OK {
		failsWith(t, digits, r, e)
	}
}

// P302

func TestEachCallTakesItsValueAndGoesOnBehindIt(t *testing.T) {
	for _, v := range plainValues() {
		r := wire.Read(append(append([]byte{}, v.bytes...), 0xab))
		is(t, v.name, v.read(r), v.want)
		is(t, v.name+": Left", r.Left(), 1)
		is(t, v.name+": the byte behind it", r.Byte(), byte(0xab))
		is(t, v.name+": Done", r.Done(), api.OK)
	}
}

func TestBytesThatEndWithinAValueAreErrEnds(t *testing.T) {
	for _, v := range plainValues() {
		for n := range min(len(v.bytes), 400) {
			r := wire.Read(v.bytes[:n])
			got := v.read(r)
			for _, c := range calls() {
				if c.name == v.name {
					is(t, v.name+" that ends", got, c.zero)
				}
			}
			failsWith(t, v.name+" that ends", r, api.ErrEnds)
		}
	}
}

func TestNoBytesAtAll(t *testing.T) {
	for _, b := range [][]byte{nil, {}} {
		is(t, "Done", wire.Read(b).Done(), api.OK)
		is(t, "Error", wire.Read(b).Error(), api.OK)
		is(t, "Left", wire.Read(b).Left(), 0)
		for _, c := range calls() {
			r := wire.Read(b)
			is(t, c.name, c.read(r), c.zero)
			failsWith(t, c.name, r, api.ErrEnds)
		}
	}
}

func TestABoolIs0Or1(t *testing.T) {
	for b := 2; b < 256; b++ {
		r := wire.Read([]byte{byte(b), 1, 1, 1})
		is(t, "Bool", r.Bool(), false)
		failsWith(t, "Bool", r, api.ErrValue)
	}
}

func TestAnIntAbove2To31Less1IsErrValue(t *testing.T) {
	read := func(r *wire.Reader) any { return r.Int() }
	answers(t, "7fffffff 01", read, 1<<31-1, api.OK, 1)
	answers(t, "80000000 01", read, 0, api.ErrValue, 0)
	answers(t, "80000001", read, 0, api.ErrValue, 0)
	answers(t, "ffffffff", read, 0, api.ErrValue, 0)
	answers(t, "800000", read, 0, api.ErrEnds, 0)
	list := func(r *wire.Reader) any { return r.Ints(9) }
	answers(t, "00000001 7fffffff", list, []int{1<<31 - 1}, api.OK, 0)
	answers(t, "00000002 00000005 80000000 01", list, []int(nil), api.ErrValue, 0)
}

func TestHowManyAbove2To31Less1IsErrValue(t *testing.T) {
	for name, read := range withMost() {
		for _, most := range []int{math.MinInt, -1, 0, 5, 1<<31 - 1, 1 << 31, math.MaxInt} {
			for _, digits := range []string{"80000000", "80000000 00000000", "ffffffff 6162"} {
				r := wire.Read(unhex(digits))
				read(r, most)
				failsWith(t, name, r, api.ErrValue)
			}
		}
	}
	texts := func(r *wire.Reader) any { return r.Texts(5, math.MaxInt) }
	answers(t, "00000002 00000001 61 80000000", texts, []string(nil), api.ErrValue, 0)
}

func TestMostIsHowManyThereMayBe(t *testing.T) {
	for name, digits := range map[string]string{
		"Text":  "00000003 616263",
		"Raw":   "00000003 616263",
		"Ints":  "00000003 00000007 00000000 00000009",
		"Texts": "00000003 00000001 61 00000000 00000002 6263",
	} {
		want := map[string]any{
			"Text": "abc", "Raw": []byte("abc"), "Ints": []int{7, 0, 9}, "Texts": []string{"a", "", "bc"},
		}[name]
		for _, most := range []int{3, 4, 1<<31 - 1, math.MaxInt} {
			r := wire.Read(unhex(digits + "ff"))
			is(t, name, withMost()[name](r, most), want)
			is(t, name+": Error", r.Error(), api.OK)
			is(t, name+": Left", r.Left(), 1)
		}
		for _, most := range []int{2, 1, 0, -1, math.MinInt} {
			r := wire.Read(unhex(digits + "ff"))
			withMost()[name](r, most)
			failsWith(t, name, r, api.ErrBig)
		}
	}
}

func TestAMostBelow0Is0(t *testing.T) {
	for name, read := range withMost() {
		for _, most := range []int{0, -1, -1 << 31, math.MinInt} {
			r := wire.Read(unhex("00000000 05"))
			read(r, most)
			is(t, name+": Error", r.Error(), api.OK)
			is(t, name+": Left", r.Left(), 1)
			r = wire.Read(unhex("00000001 00000000"))
			read(r, most)
			failsWith(t, name, r, api.ErrBig)
		}
	}
}

func TestMoreThanMostComesAheadOfErrEnds(t *testing.T) {
	for name, read := range withMost() {
		for _, digits := range []string{"00000003", "00000003 61", "7fffffff", "7fffffff 0000"} {
			r := wire.Read(unhex(digits))
			read(r, 2)
			failsWith(t, name, r, api.ErrBig)
			r = wire.Read(unhex(digits))
			read(r, math.MaxInt)
			failsWith(t, name, r, api.ErrEnds)
		}
	}
}

func TestATextOfTextsHasLongBytesAtMost(t *testing.T) {
	for _, x := range []struct {
		digits string
		long   int
		want   []string
		e      api.Errno
	}{
		{"00000002 00000002 6162 00000000", 2, []string{"ab", ""}, api.OK},
		{"00000002 00000002 6162 00000000", math.MaxInt, []string{"ab", ""}, api.OK},
		{"00000002 00000002 6162 00000000", 1, nil, api.ErrBig},
		{"00000002 00000001 61 00000002 6162", 1, nil, api.ErrBig},
		{"00000002 00000001 61 00000002 61", 1, nil, api.ErrBig},
		{"00000002 00000001 61 00000002", 1, nil, api.ErrBig},
		{"00000002 00000001 61 000000", 1, nil, api.ErrEnds},
		{"00000002 00000001 61", 1, nil, api.ErrEnds},
		{"00000002 00000000 00000000", 0, []string{"", ""}, api.OK},
		{"00000001 00000001 61", 0, nil, api.ErrBig},
		{"00000000", 0, nil, api.OK},
		{"00000000", -1, nil, api.OK},
		{"00000001 00000000", -1, nil, api.ErrBig},
		{"00000001 00000001 61", math.MinInt, nil, api.ErrBig},
	} {
		answers(t, x.digits, func(r *wire.Reader) any { return r.Texts(2, x.long) }, x.want, x.e, 0)
	}
}

func TestTheFirstOfAListThatCanNotBeReadIsTold(t *testing.T) {
	list := func(r *wire.Reader) any { return r.Ints(9) }
	answers(t, "00000003 80000000", list, []int(nil), api.ErrValue, 0)
	answers(t, "00000003 00000001 800000", list, []int(nil), api.ErrEnds, 0)
	texts := func(r *wire.Reader) any { return r.Texts(9, 2) }
	answers(t, "00000002 00000003 80000000", texts, []string(nil), api.ErrBig, 0)
	answers(t, "00000002 00000002 61", texts, []string(nil), api.ErrEnds, 0)
	answers(t, "00000002 80000000 00000003", texts, []string(nil), api.ErrValue, 0)
}

func TestTheBytesOfReadAreNotChanged(t *testing.T) {
	given := append(make([]byte, 0, 64), unhex("00000002 6162 00000002 6364 00000001 00000007")...)
	whole := bytes.Clone(given[:cap(given)])
	one, other := wire.Read(given), wire.Read(given)
	first := one.Raw(2)
	is(t, "Raw", first, []byte("ab"))
	spoil(first)
	is(t, "Text behind a change of what was handed out", one.Text(2), "cd")
	is(t, "the other's Raw", other.Raw(2), []byte("ab"))
	is(t, "the other's Raw", other.Raw(2), []byte("cd"))
	list := one.Ints(1)
	spoil(list)
	is(t, "the other's Ints", other.Ints(1), []int{7})
	is(t, "Done", one.Done(), api.OK)
	one.Fail(api.ErrCode)
	is(t, "the other's Done", other.Done(), api.OK)
	is(t, "the bytes", given[:cap(given)], whole)
}

func TestAReaderIsJustWhatTheWordsSay(t *testing.T) {
	m := mixer(302)
	for range 20000 {
		given := joined(m.mixedValues(m.below(4)))
		for range m.below(3) {
			if len(given) > 0 {
				given[m.below(len(given))] = []byte{0, 1, 2, 0x7f, 0x80, 0xff}[m.below(6)]
			}
		}
		r, want := wire.Read(given), &model{bytes: given}
		for range 6 {
			compareStep(t, &m, r, want)
		}
	}
}

// compareStep holds one call against the model's.
func compareStep(t *testing.T, m *mixer, r *wire.Reader, want *model) {
	t.Helper()
	most, long := m.below(6), m.below(5)
	switch m.below(10) {
	case 0:
		is(t, "Byte", r.Byte(), want.byteNumber())
	case 1:
		is(t, "Bool", r.Bool(), want.truth())
	case 2:
		is(t, "Short", r.Short(), want.short())
	case 3:
		n, _ := want.number()
		is(t, "Int", r.Int(), n)
	case 4:
		is(t, "Long", r.Long(), want.long())
	case 5:
		is(t, "Text", r.Text(most), want.text(most))
	case 6:
		is(t, "Raw", r.Raw(most), []byte(want.text(most)))
	case 7:
		is(t, "Ints", r.Ints(most), want.ints(most))
	case 8:
		is(t, "Texts", r.Texts(most, long), want.texts(most, long))
	case 9:
		e := []api.Errno{api.OK, api.ErrIface}[m.below(2)]
		r.Fail(e)
		if want.e == api.OK {
			want.e = e
		}
	}
	is(t, "Left", r.Left(), want.left())
	is(t, "Error", r.Error(), want.e)
	is(t, "Done", r.Done(), want.done())
}

// P303

func TestLeftIsWhatIsNotTakenYet(t *testing.T) {
	all := plainValues()
	r := wire.Read(joined(all))
	left := len(joined(all))
	is(t, "Left", r.Left(), left)
	for _, v := range all {
		v.read(r)
		left -= len(v.bytes)
		is(t, "Left behind "+v.name, r.Left(), left)
	}
	is(t, "Left at the end", r.Left(), 0)
	r = wire.Read([]byte{2, 1, 1})
	r.Bool()
	is(t, "Left behind a failure", r.Left(), 0)
}

func TestFailKeepsTheFirstErrorOnly(t *testing.T) {
	r := wire.Read([]byte{1, 2, 3})
	r.Fail(api.OK)
	is(t, "Error behind Fail with OK", r.Error(), api.OK)
	is(t, "Left behind Fail with OK", r.Left(), 3)
	is(t, "Byte behind Fail with OK", r.Byte(), byte(1))
	r.Fail(api.ErrIface)
	failsWith(t, "Fail", r, api.ErrIface)
	r.Fail(api.OK)
	failsWith(t, "Fail with OK behind a failure", r, api.ErrIface)
	r.Fail(api.ErrEnds)
	failsWith(t, "a second Fail", r, api.ErrIface)

	r = wire.Read([]byte{1})
	r.Int()
	r.Fail(api.ErrIface)
	failsWith(t, "Fail behind a call that failed", r, api.ErrEnds)

	r = wire.Read(nil)
	r.Fail(api.ErrImage)
	failsWith(t, "Fail at the end", r, api.ErrImage)

	for _, e := range []api.Errno{-1, 999, math.MinInt, math.MaxInt} {
		r = wire.Read([]byte{1})
		r.Fail(e)
		failsWith(t, "Fail with any number", r, e)
	}
}

func TestDoneTellsBytesThatAreLeft(t *testing.T) {
	r := wire.Read([]byte{1, 2})
	for range 2 {
		is(t, "Done", r.Done(), api.ErrMore)
		is(t, "Error", r.Error(), api.OK)
		is(t, "Left", r.Left(), 2)
	}
	is(t, "Byte behind Done", r.Byte(), byte(1))
	is(t, "Done", r.Done(), api.ErrMore)
	is(t, "Byte behind Done", r.Byte(), byte(2))
	is(t, "Done at the end", r.Done(), api.OK)
	is(t, "Byte behind the end", r.Byte(), byte(0))
	is(t, "Done behind a failure", r.Done(), api.ErrEnds)
	r = wire.Read([]byte{2, 1})
	r.Bool()
	is(t, "Done behind a failure with bytes left", r.Done(), api.ErrValue)
}

func TestANilReaderIsErrNil(t *testing.T) {
	var r *wire.Reader
	r.Fail(api.ErrObject)
	r.Fail(api.OK)
	failsWith(t, "nil", r, api.ErrNil)
	for name, read := range withMost() {
		for _, most := range []int{-1, 0, 1} {
			read(r, most)
			failsWith(t, name, r, api.ErrNil)
		}
	}
}
