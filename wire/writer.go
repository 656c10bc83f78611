package wire

import "bytes"

// Writer: bytes that are written.
type Writer struct {
	written []byte
}

// Byte writes one byte.
func (w *Writer) Byte(b byte) {
	w.put(b)
}

// Bool writes one byte, 0 or 1.
func (w *Writer) Bool(b bool) {
	if b {
		w.put(1)
	} else {
		w.put(0)
	}
}

// Short writes the lowest 16 bits.
func (w *Writer) Short(n int) {
	w.putNumber(uint64(n), shortSize)
}

// Int writes the lowest 31 bits.
func (w *Writer) Int(n int) {
	w.putNumber(uint64(n)&greatestInt, intSize)
}

// Long writes all 64 bits.
func (w *Writer) Long(n uint64) {
	w.putNumber(n, longSize)
}

// Text writes how many bytes, and them.
func (w *Writer) Text(s string) {
	w.Raw([]byte(s))
}

// Raw writes how many bytes, and them.
func (w *Writer) Raw(b []byte) {
	w.Int(len(b))
	w.put(b...)
}

// Ints writes how many ints, and them.
func (w *Writer) Ints(l []int) {
	w.Int(len(l))
	for _, n := range l {
		w.Int(n)
	}
}

// Texts writes how many texts, and them.
func (w *Writer) Texts(l []string) {
	w.Int(len(l))
	for _, s := range l {
		w.Text(s)
	}
}

// Len: how many bytes were written.
func (w *Writer) Len() int {
	if w == nil {
		return 0
	}
	return len(w.written)
}

// Bytes: all that was written, in new memory.
func (w *Writer) Bytes() []byte {
	if w == nil {
		return nil
	}
	return bytes.Clone(w.written)
}

// putNumber writes the lowest bytes of n, as many as size says.
func (w *Writer) putNumber(n uint64, size int) {
	for below := size - 1; below >= 0; below-- {
		w.put(byte(n >> (8 * below)))
	}
}

// put is what every call writes by, so that a nil Writer takes nothing of any of them.
func (w *Writer) put(b ...byte) {
	if w != nil {
		w.written = append(w.written, b...)
	}
}
