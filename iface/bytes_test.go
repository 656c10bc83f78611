package iface_test

import (
	"bytes"
	"encoding/hex"
	"fmt"
	"slices"
	"strings"
	"testing"

	"foundry/api"
	"foundry/floats"
	"foundry/iface"
	"foundry/types"
)

// unhex: the bytes that are written in a text, blanks aside.
func unhex(t *testing.T, text string) []byte {
	t.Helper()
	b, err := hex.DecodeString(strings.ReplaceAll(text, " ", ""))
	if err != nil {
		t.Fatal(err)
	}
	return b
}

// encoded: the bytes of an interface that has to be right.
func encoded(t *testing.T, f api.Iface) []byte {
	t.Helper()
	b, code := iface.Encode(f)
	if code != api.OK {
		t.Fatalf("Encode of %s: %v", ifaceKey(f), code)
	}
	return b
}

// decoded: all that Decode answers, as one text.
func decoded(b []byte) string {
	f, code := iface.Decode(b)
	return decodedText(f, code)
}

func decodedText(f api.Iface, code api.Errno) string {
	return fmt.Sprint(ifaceKey(f), " ", int(code))
}

func noIface() string {
	return decodedText(api.Iface{}, api.ErrIface)
}

// isRead fails unless Decode answers of these bytes what the model does.
func isRead(t *testing.T, what string, b []byte) {
	t.Helper()
	want := noIface()
	if f, right := modelDecode(b); right {
		want = decodedText(f, api.OK)
	}
	if got := decoded(b); got != want {
		t.Errorf("%s: Decode of %x: %s, not %s", what, b, got, want)
	}
}

const exampleBytes = "00000001 6d 00000001 01 00000001 58 01 0000000000000001 00000000"

func TestExamplesOfBytes(t *testing.T) {
	f := showing("m", num("X", 1))
	b := encoded(t, f)
	is(t, "Encode", hex.EncodeToString(b), strings.ReplaceAll(exampleBytes, " ", ""))
	is(t, "Decode", decoded(b), decodedText(f, api.OK))
	is(t, "a byte more", decoded(append(slices.Clone(b), 0)), noIface())
	b[15] = 2
	is(t, "02 as the type", decoded(b), decodedText(showing("m", constant("X", api.TFloat, 1)), api.OK))
}

// F10.2: Encode

func TestEncode(t *testing.T) {
	for _, c := range []struct {
		f    api.Iface
		want string
	}{
		{showing("m"), "00000001 6d 00000000"},
		{api.Iface{Name: "abc", Items: []api.Item{}}, "00000003 616263 00000000"},
		{showing("m", num("X", -2)), "00000001 6d 00000001 01 00000001 58 01 fffffffffffffffe 00000000"},
		{showing("m", constant("Xy", api.TFloat, floats.NaN)), "00000001 6d 00000001 01 00000002 5879 02 7ff8000000000001 00000000"},
		{showing("m", constant("X", api.TBool, 1)), "00000001 6d 00000001 01 00000001 58 03 0000000000000001 00000000"},
		{showing("m", fn("f", api.TNone)), "00000001 6d 00000001 03 00000001 66 00 0000000000000000 00000000"},
		{showing("m", fn("f", api.TBool, api.TFloat)), "00000001 6d 00000001 03 00000001 66 03 0000000000000000 00000001 00000002"},
		{showing("m", fn("f", api.TInt, 1, 2, 3, 1, 2, 3, 1, 2)), "00000001 6d 00000001 03 00000001 66 01 0000000000000000 00000008 00000001 00000002 00000003 00000001 00000002 00000003 00000001 00000002"},
		{showing("m", num("X", 258), fn("f", api.TFloat, api.TBool, api.TInt)), "00000001 6d 00000002 01 00000001 58 01 0000000000000102 00000000 03 00000001 66 02 0000000000000000 00000002 00000003 00000001"},
	} {
		is(t, ifaceKey(c.f), hex.EncodeToString(encoded(t, c.f)), strings.ReplaceAll(c.want, " ", ""))
		is(t, c.want, decoded(unhex(t, c.want)), decodedText(c.f, api.OK))
	}
	for _, f := range rightIfaces() {
		is(t, ifaceKey(f), hex.EncodeToString(encoded(t, f)), hex.EncodeToString(modelBytes(f)))
	}
}

func TestEncodeOfAnInterfaceThatIsNotRight(t *testing.T) {
	seen := map[api.Errno]int{}
	for _, wrong := range wrongIfaces() {
		b, code := iface.Encode(wrong.f)
		is(t, wrong.what, code, wrong.code)
		is(t, wrong.what+", by RightIface", types.RightIface(wrong.f), wrong.code)
		is(t, wrong.what+": bytes", len(b), 0)
		seen[code]++
	}
	is(t, "errors", len(seen), 4)
	b, code := iface.Encode(api.Iface{})
	is(t, "no interface at all", fmt.Sprint(len(b), int(code)), fmt.Sprint(0, int(api.ErrName)))
}

// F10.2: Decode

func TestDecodeOfNoBytes(t *testing.T) {
	is(t, "nil", decoded(nil), noIface())
	is(t, "none", decoded([]byte{}), noIface())
	is(t, "all in the spare room", decoded(unhex(t, exampleBytes)[:0]), noIface())
}

func TestDecodeOfBeginningsAndOfMore(t *testing.T) {
	for _, f := range rightIfaces() {
		b := encoded(t, f)
		for n := range b {
			if got := decoded(b[:n]); got != noIface() {
				t.Errorf("the first %d of %x: %s", n, b, got)
			}
		}
		for _, more := range [][]byte{{0}, {1}, {255}, {0, 0, 0, 0}, b} {
			if got := decoded(slices.Concat(b, more)); got != noIface() {
				t.Errorf("%x with %x behind it: %s", b, more, got)
			}
		}
	}
}

func TestDecodeOfATurnedByte(t *testing.T) {
	right, wrong := 0, 0
	for _, f := range []api.Iface{
		showing("m"), showing("m", num("X", 1)), showing("mod", constant("A", api.TFloat, floats.NaN), constant("B", api.TBool, 1), fn("f", 0), fn("g", api.TBool, 1, 2, 3)),
	} {
		b := encoded(t, f)
		for at := range b {
			for turn := 1; turn < 256; turn++ {
				turned := slices.Clone(b)
				turned[at] ^= byte(turn)
				isRead(t, fmt.Sprint("turned at ", at), turned)
				back, code := iface.Decode(turned)
				if code == api.OK {
					right++
					is(t, "Encode of Decode", hex.EncodeToString(encoded(t, back)), hex.EncodeToString(turned))
				} else {
					wrong++
				}
			}
		}
	}
	if right < 500 || wrong < 500 {
		t.Errorf("%d right ones and %d wrong ones", right, wrong)
	}
}

func TestDecodeOfAnInterfaceThatIsNotRight(t *testing.T) {
	for _, wrong := range wrongIfaces() {
		// A number that has no place in its bytes is written as another one, which may be right.
		b := modelBytes(wrong.f)
		if back, right := modelDecode(b); right {
			is(t, wrong.what, ifaceKey(back) == ifaceKey(wrong.f), false)
			is(t, wrong.what+", as another one", decoded(b), decodedText(back, api.OK))
			continue
		}
		is(t, wrong.what, decoded(b), noIface())
	}
	for kind := range 256 {
		isRead(t, "a kind", modelBytes(showing("m", api.Item{Kind: kind, Name: "X", Type: api.TInt})))
		isRead(t, "a type", modelBytes(showing("m", constant("X", kind, 1))))
		isRead(t, "a result", modelBytes(showing("m", fn("f", kind, 1))))
		isRead(t, "a parameter", modelBytes(showing("m", fn("f", 0, kind))))
	}
}

func TestDecodeOfItemsOutOfOrderAndTwice(t *testing.T) {
	a, b, c := num("a", 1), fn("b", 0), num("c", 3)
	is(t, "in order", decoded(modelBytes(showing("m", a, b, c))), decodedText(showing("m", a, b, c), api.OK))
	for _, items := range [][]api.Item{{b, a}, {a, c, b}, {c, b, a}, {a, a}, {a, fn("a", 0)}, {a, b, b}, {a, b, a}, {a, num("A", 1)}, {fn("bb", 0), b}} {
		is(t, fmt.Sprint(items), decoded(modelBytes(showing("m", items...))), noIface())
	}
}

func TestDecodeOfCounts(t *testing.T) {
	items := modelItems(inOrder(64))
	is(t, "64 items", decoded(append(modelHead("m", 64), items...)), decodedText(showing("m", inOrder(64)...), api.OK))
	// Below 0, great ones, and others than there are.
	for _, n := range []int{-1, -2, -64, -1 << 31, 1<<31 - 1, 1 << 31, 1<<31 + 64, 1 << 16, 65, 66, 63, 1, 0, 1000} {
		is(t, fmt.Sprint("64 items as ", n), decoded(append(modelHead("m", n), items...)), noIface())
	}
	for _, n := range []int{65, 66, 100, 3000} {
		is(t, fmt.Sprint(n, " items"), decoded(modelBytes(showing("m", inOrder(n)...))), noIface())
	}
	head := unhex(t, "00000001 6d 00000001 03 00000001 66 00 0000000000000000")
	for _, n := range []string{"ffffffff", "80000000", "80000001", "7fffffff", "00000002", "00000000", "00010001", "00000009"} {
		isRead(t, "parameters as "+n, append(slices.Clone(head), unhex(t, n+"00000001")...))
		is(t, "a parameter as "+n, decoded(slices.Concat(head, unhex(t, "00000001"+n))) == noIface(), n != "00000002")
	}
	for n := range 12 {
		isRead(t, fmt.Sprint(n, " parameters"), modelBytes(showing("m", fn("f", 0, times(n, api.TInt)...))))
	}
	is(t, "9 parameters", decoded(modelBytes(showing("m", fn("f", 0, times(9, api.TInt)...)))), noIface())
}

func TestDecodeOfTexts(t *testing.T) {
	for n := range 36 {
		isRead(t, fmt.Sprint("a module's name of ", n), modelBytes(showing(long(n), num("X", 1))))
		isRead(t, fmt.Sprint("an item's name of ", n), modelBytes(showing("m", num(long(n), 1))))
	}
	is(t, "32 bytes", decoded(modelBytes(showing(long(32), num(long(32), 1)))), decodedText(showing(long(32), num(long(32), 1)), api.OK))
	for _, text := range []string{"", "ffffffff", "7fffffff", "80000001 6d 00000000", "ffffffff 6d 00000000", "7fffffff 6d 00000000", "00000000 00000000", "00000002 6d", "00000001 6d 00000001 01 ffffffff 58 01 0000000000000001 00000000"} {
		is(t, text, decoded(unhex(t, text)), noIface())
	}
}

func TestDecodeIsTheModels(t *testing.T) {
	x := mixer(1201)
	right := 0
	for range 40000 {
		b := modelBytes(x.near(x.rightIface("m")))
		switch x.below(5) {
		case 0:
			b = b[:x.below(len(b))]
		case 1:
			b[x.below(len(b))] = byte(x.below(5))
		case 2:
			at := x.below(len(b))
			b = slices.Insert(b, at, byte(x.below(3)))
		}
		isRead(t, "mixed", b)
		if _, code := iface.Decode(b); code == api.OK {
			right++
		}
	}
	if right < 1000 {
		t.Errorf("only %d of them right", right)
	}
}

// P1001

func TestBytesAreAlikeJustIfInterfacesAre(t *testing.T) {
	l := rightIfaces()
	x := mixer(1202)
	for range 150 {
		l = append(l, x.rightIface(pick(&x, []string{"m", "n"})))
	}
	for _, a := range l {
		for _, b := range l {
			same := types.SameIface(a, b)
			if bytes.Equal(encoded(t, a), encoded(t, b)) != same {
				t.Fatalf("%s and %s: the same: %v, but not by their bytes", ifaceKey(a), ifaceKey(b), same)
			}
		}
	}
	some := showing("m", fn("f", 0))
	some.Items[0].Params = []int{}
	is(t, "an empty list", hex.EncodeToString(encoded(t, some)), hex.EncodeToString(encoded(t, showing("m", fn("f", 0)))))
}

func TestDecodeOfEncode(t *testing.T) {
	x := mixer(1203)
	l := rightIfaces()
	for range 5000 {
		l = append(l, x.rightIface("m"))
	}
	for _, f := range l {
		back, code := iface.Decode(encoded(t, f))
		is(t, "Decode of Encode", code, api.OK)
		if !types.SameIface(back, f) {
			t.Fatalf("%s came back as %s", ifaceKey(f), ifaceKey(back))
		}
		is(t, "Encode of Decode", hex.EncodeToString(encoded(t, back)), hex.EncodeToString(encoded(t, f)))
	}
}

// What is handed in and out.

func TestBytesShareNothing(t *testing.T) {
	l := rightIfaces()
	for _, wrong := range wrongIfaces() {
		l = append(l, wrong.f)
	}
	for _, f := range l {
		f = roomyIface(f)
		ahead := wholeKey([]api.Iface{f})
		b, code := iface.Encode(f)
		other, _ := iface.Encode(f)
		want := hex.EncodeToString(b)
		for at := range b[:cap(b)] {
			b[:cap(b)][at] = 99
		}
		is(t, "the interface", wholeKey([]api.Iface{f}), ahead)
		is(t, "another text of bytes", hex.EncodeToString(other), want)
		if code == api.OK {
			decodeSharesNothing(t, other)
		}
	}
	decodeSharesNothing(t, []byte{1, 2, 3})
}

func decodeSharesNothing(t *testing.T, b []byte) {
	t.Helper()
	b = spared(b, 77)
	ahead, first := fmt.Sprint(b[:cap(b)]), decoded(b)
	f, code := iface.Decode(b)
	other, _ := iface.Decode(b)
	listsApart(t, f)
	scribble(f)
	is(t, "the bytes", fmt.Sprint(b[:cap(b)]), ahead)
	is(t, "another interface", decodedText(other, code), first)
	for at := range b {
		b[at] = 99
	}
	is(t, "an interface whose bytes are written over", decodedText(other, code), first)
}
