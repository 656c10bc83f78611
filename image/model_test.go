package image_test

import (
	"bytes"
	"encoding/binary"
	"fmt"
	"hash/fnv"
	"slices"
	"strings"

	"foundry/api"
	"foundry/code"
	"foundry/floats"
	"foundry/image"
	"foundry/types"
)

// A model of the chapter's words that takes no short way.

// modelRight: all that is wrong is listed in the chapter's order, then the first of it is told.
func modelRight(i image.Image) api.Errno {
	var wrong []api.Errno
	if max(len(i.Vars), len(i.Fns)) > 2048 {
		wrong = append(wrong, api.ErrBig)
	}
	p := code.Frame{}
	for _, v := range i.Vars {
		p.Vars = append(p.Vars, v.Type)
		if !modelValue(v) {
			wrong = append(wrong, api.ErrImage)
		}
	}
	main := false
	for at, f := range i.Fns {
		p.Fns = append(p.Fns, f.Sig)
		main = main || at == i.Main && len(f.Sig.Params) == 0 && f.Sig.Result == api.TInt
	}
	if !main {
		wrong = append(wrong, api.ErrImage)
	}
	for _, f := range i.Fns {
		if _, e := code.Verify(f, p); e != api.OK {
			wrong = append(wrong, e)
		}
	}
	if len(wrong) == 0 {
		return api.OK
	}
	return wrong[0]
}

func modelValue(v api.Value) bool {
	switch v.Type {
	case api.TInt:
		return true
	case api.TFloat:
		return v.Bits&(1<<63-1) <= 0x7ff0000000000000 || v.Bits == floats.NaN
	case api.TBool:
		return v.Bits < 2
	}
	return false
}

// sealed: the bytes with their Sum behind them.
func sealed(b []byte) []byte {
	h := fnv.New32a()
	h.Write(b)
	return binary.BigEndian.AppendUint32(slices.Clone(b), h.Sum32())
}

// modelInner: the bytes ahead of the Sum. Of an image that is not right what its numbers come to in the room that they have.
func modelInner(i image.Image) []byte {
	b := binary.BigEndian.AppendUint32([]byte("fimg"), uint32(len(i.Vars)))
	for _, v := range i.Vars {
		b = binary.BigEndian.AppendUint64(append(b, byte(v.Type)), v.Bits)
	}
	b = binary.BigEndian.AppendUint32(b, uint32(len(i.Fns)))
	for _, f := range i.Fns {
		b = appendTypes(b, f.Sig.Params)
		b = appendTypes(append(b, byte(f.Sig.Result)), f.Locals)
		l := modelCode(f.Code)
		b = append(binary.BigEndian.AppendUint32(b, uint32(len(l))), l...)
	}
	return binary.BigEndian.AppendUint32(b, uint32(i.Main))
}

func modelBytes(i image.Image) []byte {
	return sealed(modelInner(i))
}

func appendTypes(b []byte, l []int) []byte {
	b = append(b, byte(len(l)))
	for _, t := range l {
		b = append(b, byte(t))
	}
	return b
}

// operandBytes: how many bytes each Op has behind its own.
func operandBytes() []int {
	return []int{1: 9, 2: 1, 3: 1, 4: 2, 5: 2, 6: 1, 7: 1, 8: 2, 9: 2, 10: 2, 11: 0, 12: 0, 13: 0, 14: 0, 15: 2, 16: 0, 17: 0}
}

func modelCode(l []code.Ins) []byte {
	var b []byte
	for _, i := range l {
		b = append(b, byte(i.Op))
		size := 0
		if i.Op >= 1 && i.Op <= 17 {
			size = operandBytes()[i.Op]
		}
		switch size {
		case 9:
			b = binary.BigEndian.AppendUint64(append(b, byte(i.V.Type)), i.V.Bits)
		case 2:
			b = binary.BigEndian.AppendUint16(b, uint16(i.N))
		case 1:
			b = append(b, byte(i.N))
		}
	}
	return b
}

// modelPacked: what Pack has to answer, as one text.
func modelPacked(i image.Image) string {
	if e := modelRight(i); e != api.OK {
		return bytesTold(nil, e)
	}
	b := modelBytes(i)
	if len(b) > 65536 {
		return bytesTold(nil, api.ErrBig)
	}
	return bytesTold(b, api.OK)
}

// cutter: bytes that are read from the beginning; lacks, once there were too few.
type cutter struct {
	b     []byte
	lacks bool
}

func (c *cutter) cut(n int) []byte {
	if n > len(c.b) {
		c.lacks = true
		return make([]byte, min(n, 8))
	}
	l := c.b[:n]
	c.b = c.b[n:]
	return l
}

func (c *cutter) one() int {
	return int(c.cut(1)[0])
}

func (c *cutter) four() int {
	return int(binary.BigEndian.Uint32(c.cut(4)))
}

func (c *cutter) types() []int {
	var l []int
	for _, b := range c.cut(c.one()) {
		l = append(l, int(b))
	}
	return l
}

// modelUnpack: what Unpack has to answer: the bytes are cut into parts, and any part that is not as it should be is told at once.
func modelUnpack(b []byte) (image.Image, api.Errno) {
	if len(b) > 65536 {
		return image.Image{}, api.ErrBig
	}
	if len(b) < 4 || !bytes.Equal(sealed(b[:len(b)-4]), b) {
		return image.Image{}, api.ErrImage
	}
	c := cutter{b: b[:len(b)-4]}
	if string(c.cut(4)) != "fimg" {
		return image.Image{}, api.ErrImage
	}
	var i image.Image
	for n := c.four(); n > 0 && !c.lacks; n-- {
		i.Vars = append(i.Vars, api.Value{Type: c.one(), Bits: binary.BigEndian.Uint64(c.cut(8))})
	}
	wrong := false
	for n := c.four(); n > 0 && !c.lacks; n-- {
		f := code.Fn{Sig: code.Sig{Params: c.types(), Result: c.one()}, Locals: c.types()}
		l, e := code.Decode(c.cut(c.four()))
		wrong = wrong || e != api.OK
		f.Code = l
		i.Fns = append(i.Fns, f)
	}
	i.Main = c.four()
	if wrong || c.lacks || len(c.b) > 0 || modelRight(i) != api.OK {
		return image.Image{}, api.ErrImage
	}
	return i, api.OK
}

// modelText: the lines of a right image.
func modelText(i image.Image) string {
	if modelRight(i) != api.OK {
		return ""
	}
	lines := []string{fmt.Sprintf("image %d %d %d", len(i.Vars), len(i.Fns), i.Main)}
	for _, v := range i.Vars {
		lines = append(lines, "var "+types.Show(v))
	}
	for n, f := range i.Fns {
		lines = append(lines, fmt.Sprintf("fn %d", n))
		for at, ins := range f.Code {
			lines = append(lines, fmt.Sprintf("%d %s", at, code.Text(ins)))
		}
	}
	return strings.Join(lines, "\n") + "\n"
}
