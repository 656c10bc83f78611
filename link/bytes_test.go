package link_test

import (
	"fmt"
	"slices"
	"strings"
	"testing"

	"foundry/api"
	"foundry/code"
	"foundry/image"
	"foundry/link"
	"foundry/object"
)

// F18.2: Bytes.

func TestBytesAreThoseOfTheImage(t *testing.T) {
	for seed := range uint64(200) {
		l := made(3000 + seed)
		i, _ := modelLink(l)
		want, e := image.Pack(i)
		is(t, "image.Pack", e, api.OK)
		isText(t, fmt.Sprint("seed ", seed), packed(l), bytesTold(want, api.Problem{}))
		b, p := link.Bytes(l)
		is(t, "Bytes", problemKey(p), problemKey(api.Problem{}))
		back, e := image.Unpack(b)
		is(t, "image.Unpack", e, api.OK)
		isText(t, fmt.Sprint("seed ", seed, ": and back"), key(back), key(i))
	}
}

func TestBytesWritten(t *testing.T) {
	l := all(mainOf("call @k.f; return", variable("v", num(1))), kf())
	inner := "fimg" + "\x00\x00\x00\x01\x01\x00\x00\x00\x00\x00\x00\x00\x01" + "\x00\x00\x00\x02" +
		"\x00\x01\x00\x00\x00\x00\x0b\x01\x01\x00\x00\x00\x00\x00\x00\x00\x01\x0b" + "\x00\x01\x00\x00\x00\x00\x04\x0a\x00\x00\x0b" + "\x00\x00\x00\x01"
	b, p := link.Bytes(l)
	is(t, "Bytes", problemKey(p), problemKey(api.Problem{}))
	is(t, "but for the Sum", string(b[:max(0, len(b)-4)]), inner)
}

// sized: objects whose image has so many bytes.
func sized(n int) []object.Object {
	l := all(five(), obj("a", function("f", "", "", "return"), variable("v", num(1))), obj("z"))
	// The last function has what the others leave; behind its first return nothing comes to it.
	rest := n - len(imageBytes(l))
	for at := 0; rest > 0; at++ {
		// Of a function with the code of return alone there are 8 bytes.
		size := min(rest, 30000)
		if left := rest - size; left > 0 && left < 8 {
			size -= 8
		}
		filled := code.Fn{Code: append([]code.Ins{{Op: 11}}, times((size-8)/10, code.Ins{Op: 1, V: num(7)})...)}
		filled.Code = append(filled.Code, times((size-8)%10, code.Ins{Op: 11})...)
		coded(fmt.Sprint("f", at), filled)(&l[at%2*2])
		rest -= size
	}
	return l
}

// imageBytes: as the model has them.
func imageBytes(l []object.Object) []byte {
	i, _ := modelLink(l)
	b, _ := image.Pack(i)
	return b
}

func TestBytesAtMaxImage(t *testing.T) {
	is(t, "MaxImage", api.MaxImage, 65536)
	for _, n := range []int{1000, 65000, 65534, 65535, 65536} {
		b, p := link.Bytes(sized(n))
		is(t, fmt.Sprint(n, " bytes"), fmt.Sprint(len(b), problemKey(p)), fmt.Sprint(n, problemKey(api.Problem{})))
	}
	for _, n := range []int{65537, 65538, 65540, 66000, 70000, 131072, 200000} {
		l := sized(n)
		i, p := link.Link(l)
		is(t, fmt.Sprint("Link of ", n, " bytes"), problemKey(p), problemKey(api.Problem{}))
		isText(t, "it is the model's", key(i), key(imageOf(t, l...)))
		for _, order := range orders(l) {
			isText(t, fmt.Sprint("Bytes of ", n, " bytes"), packed(order), bytesTold(nil, api.Problem{Code: api.ErrBig}))
		}
	}
}

// Objects may be greater than what Pack of them takes, and an image of few great ones has room all the same.
func TestGreatObjects(t *testing.T) {
	l := sized(40000)
	_, e := object.Pack(l[0])
	is(t, "object.Pack", e, api.ErrBig)
	b, p := link.Bytes(l)
	is(t, "Bytes", fmt.Sprint(len(b), problemKey(p)), fmt.Sprint(40000, problemKey(api.Problem{})))
}

// Link's Problem comes ahead of what image.Pack would say.
func TestBytesOfProblems(t *testing.T) {
	great := sized(70000)
	for _, c := range []struct {
		what  string
		more  []object.Object
		code  api.Errno
		mod   string
		place int
	}{
		{"too many", many(30), api.ErrBig, "", 0},
		{"a wrong object", all(obj("if")), api.ErrName, "if", 0},
		{"two of one module", all(obj("z")), api.ErrTwice, "z", 0},
		{"no such symbol", all(obj("b", function("f", "", "", "call @a.f; call @a.g; return"))), api.ErrSymbol, "b", 1},
		{"wrong code", all(obj("b", function("f", "", "", "return"), function("g", "", "", strings.Repeat("push 1; ", 513)+"return"))), api.ErrBig, "b", 1},
	} {
		isProblem(t, c.what, append(slices.Clone(great), c.more...), c.code, c.mod, c.place)
	}
	isProblem(t, "no main", great[1:], api.ErrMain, "main", 0)
}
