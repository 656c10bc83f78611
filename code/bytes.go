package code

import (
	"foundry/api"
)

// Encode: the bytes of the instructions, one behind the other.
func Encode(l []Ins) ([]byte, api.Errno) {
	if len(l) > MaxCode {
		return nil, api.ErrBig
	}
	var b []byte
	for _, i := range l {
		if !Right(i) {
			return nil, api.ErrCode
		}
		b = appendIns(b, i)
	}
	return b, api.OK
}

func appendIns(b []byte, i Ins) []byte {
	b = append(b, byte(i.Op))
	if i.Op == opPush {
		b = append(b, byte(i.V.Type))
		return appendNumber(b, i.V.Bits, 8)
	}
	return appendNumber(b, uint64(i.N), Size(i)-1)
}

// appendNumber: the number's lowest bytes, as many as are asked for, the highest of them first.
func appendNumber(b []byte, n uint64, bytes int) []byte {
	for at := bytes - 1; at >= 0; at-- {
		b = append(b, byte(n>>(8*at)))
	}
	return b
}

// Decode: the instructions whose bytes these are. No two instructions have the same bytes, so it is enough that each one that is read is right.
func Decode(b []byte) ([]Ins, api.Errno) {
	var l []Ins
	for len(b) > 0 {
		i, right := firstIns(b)
		switch {
		case !right:
			return nil, api.ErrCode
		case len(l) == MaxCode:
			return nil, api.ErrBig
		}
		l = append(l, i)
		b = b[Size(i):]
	}
	return l, api.OK
}

// firstIns: the instruction with which the bytes begin, and true, if it is whole and right.
func firstIns(b []byte) (Ins, bool) {
	i := Ins{Op: int(b[0])}
	size := Size(i)
	switch {
	case size == 0 || size > len(b):
		return Ins{}, false
	case i.Op == opPush:
		i.V = api.Value{Type: int(b[1]), Bits: number(b[2:size])}
	default:
		i.N = int(number(b[1:size]))
	}
	return i, Right(i)
}

func number(b []byte) uint64 {
	var n uint64
	for _, one := range b {
		n = n<<8 | uint64(one)
	}
	return n
}
