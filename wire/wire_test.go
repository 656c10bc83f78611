package wire_test

import (
	"testing"

	"foundry/api"
	"foundry/wire"
)

// P304, P305

// sequences: all plain values, and others in any order.
func sequences(n int) [][]value {
	m := mixer(304)
	all := [][]value{nil, plainValues()}
	for range n {
		all = append(all, m.mixedValues(m.below(9)))
	}
	return all
}

func TestWhatWasWrittenIsRead(t *testing.T) {
	for _, l := range sequences(3000) {
		var w wire.Writer
		for _, v := range l {
			v.write(&w)
		}
		r := wire.Read(w.Bytes())
		for _, v := range l {
			is(t, v.name, v.read(r), v.want)
			is(t, v.name+": Error", r.Error(), api.OK)
		}
		is(t, "Done", r.Done(), api.OK)
		is(t, "Left", r.Left(), 0)
	}
}

func TestOfBytesThatWereCutAllWholeValuesAreRead(t *testing.T) {
	for _, l := range sequences(300)[2:] {
		var w wire.Writer
		for _, v := range l {
			v.write(&w)
		}
		for cut := range w.Len() {
			readCut(t, l, w.Bytes()[:cut])
		}
	}
}

// readCut reads values of which the last ones are not there whole.
func readCut(t *testing.T, l []value, there []byte) {
	t.Helper()
	r, end := wire.Read(there), 0
	for _, v := range l {
		end += len(v.bytes)
		got := v.read(r)
		if end > len(there) {
			failsWith(t, v.name+" that is not whole", r, api.ErrEnds)
			return
		}
		is(t, v.name+" that is whole", got, v.want)
		is(t, v.name+": Error", r.Error(), api.OK)
	}
	t.Errorf("%x: all was read", there)
}

// The chapter's examples.

func TestExamples(t *testing.T) {
	var w wire.Writer
	w.Byte(1)
	w.Short(258)
	w.Int(3)
	w.Long(4)
	w.Text("ab")
	w.Bool(true)
	is(t, "Bytes", w.Bytes(), unhex("01 0102 00000003 0000000000000004 00000002 6162 01"))
	is(t, "Len", w.Len(), 22)

	answers(t, "00000002 61", func(r *wire.Reader) any { return r.Text(10) }, "", api.ErrEnds, 0)
	answers(t, "00000002 61", func(r *wire.Reader) any { return r.Text(1) }, "", api.ErrBig, 0)
	answers(t, "02", func(r *wire.Reader) any { return r.Bool() }, false, api.ErrValue, 0)
	answers(t, "80000000", func(r *wire.Reader) any { return r.Int() }, 0, api.ErrValue, 0)

	r := wire.Read([]byte{1, 2})
	is(t, "Byte", r.Byte(), byte(1))
	is(t, "Done", r.Done(), api.ErrMore)
	is(t, "Left", r.Left(), 1)
}
