package object_test

import (
	"bytes"
	"encoding/hex"
	"fmt"
	"slices"
	"strings"
	"testing"

	"foundry/api"
	"foundry/code"
	"foundry/object"
)

// unhex: the bytes that are written in a text, blanks aside.
func unhex(t *testing.T, text string) []byte {
	t.Helper()
	b, err := hex.DecodeString(strings.ReplaceAll(text, " ", ""))
	if err != nil {
		t.Fatal(err)
	}
	return b
}

// bytesOf: the bytes of an object that has to be right, and not too big.
func bytesOf(t *testing.T, o object.Object) []byte {
	t.Helper()
	b, e := object.Pack(o)
	if e != api.OK {
		t.Fatalf("Pack: %v of %s", e, short(key(o)))
	}
	return b
}

// isRead fails unless Unpack answers of these bytes what the model does; it tells whether they are an object's.
func isRead(t *testing.T, what string, b []byte) bool {
	t.Helper()
	o, e := modelUnpack(b)
	if got, want := unpacked(b), objectTold(o, e); got != want {
		t.Errorf("%s: Unpack of %s: %s, not %s", what, short(hex.EncodeToString(b)), short(got), short(want))
	}
	return e == api.OK
}

const exampleBytes = "66 6f 62 6a 00000001 6d 00000001 00000001 76 01 0000000000000001 00000000 00000000"

func TestExampleOfBytes(t *testing.T) {
	o := obj("m", variable("v", num(1)))
	is(t, "Pack", packed(o), bytesTold(unhex(t, exampleBytes), api.OK))
	is(t, "Unpack", unpacked(unhex(t, exampleBytes)), objectTold(o, api.OK))
	is(t, "a byte more", unpacked(unhex(t, exampleBytes+"00")), noObject())
}

// P1502: Pack

func TestPack(t *testing.T) {
	for _, c := range []struct {
		o    object.Object
		want string
	}{
		{obj("m"), "666f626a 00000001 6d 00000000 00000000 00000000"},
		{obj("main", variable("x", truth(1)), variable("yy", float(1.5))), "666f626a 00000004 6d61696e 00000002 00000001 78 03 0000000000000001 00000002 7979 02 3ff8000000000000 00000000 00000000"},
		{obj("m", variable("x", num(-2))), "666f626a 00000001 6d 00000001 00000001 78 01 fffffffffffffffe 00000000 00000000"},
		{obj("m", function("f", "")), "666f626a 00000001 6d 00000000 00000001 00000001 66 00 00 00 00000000 00000000"},
		{obj("m", typed("f", []int{1, 2, 3}, 2, []int{1, 2, 3, 3})), "666f626a 00000001 6d 00000000 00000001 00000001 66 03 010203 02 04 01020303 00000000 00000000"},
		{obj("m", function("f", "push 5; get 255; jump 258; return")), "666f626a 00000001 6d 00000000 00000001 00000001 66 00 00 00 00000010 01 01 0000000000000005 02 ff 08 0102 0b 00000000"},
		{obj("m", function("f", "call @k.g; return")), "666f626a 00000001 6d 00000000 00000001 00000001 66 00 00 00 00000004 0a 0000 0b 00000001 0000 0000 02 00000001 6b 00000001 67"},
		{
			obj("m", variable("v", num(1)), function("f", "return"), function("g", "load @m.v; store @m.v; call @m.f")),
			"666f626a 00000001 6d 00000001 00000001 76 01 0000000000000001 00000002 00000001 66 00 00 00 00000001 0b 00000001 67 00 00 00 00000009 04 0000 05 0000 0a 0000" +
				"00000003 0001 0000 01 00000001 6d 00000001 76 0001 0001 01 00000001 6d 00000001 76 0001 0002 02 00000001 6d 00000001 66",
		},
	} {
		want := unhex(t, c.want)
		is(t, key(c.o), packed(c.o), bytesTold(want, api.OK))
		is(t, c.want, unpacked(want), objectTold(c.o, api.OK))
	}
	for _, o := range rightObjects() {
		is(t, key(o), packed(o), bytesTold(modelBytes(o), api.OK))
	}
}

// The places of instructions have two bytes.
func TestPackOfFarPlaces(t *testing.T) {
	for _, at := range []int{0, 1, 255, 256, 258, 4095} {
		o := obj("m", append(items(0, 62), coded("g"), coded("h", append(times(at, code.Ins{Op: 12}), code.Ins{Op: 10})...), reloc(63, at, 2, "m", "g"))...)
		b := bytesOf(t, o)
		is(t, fmt.Sprint("at ", at), bytes.HasSuffix(b, append([]byte{0, 0, 0, 1, 0, 63, byte(at >> 8), byte(at), 2}, unhex(t, "00000001 6d 00000001 67")...)), true)
		is(t, fmt.Sprint("at ", at, " and back"), unpacked(b), objectTold(o, api.OK))
	}
}

func TestPackOfWhatIsNotRight(t *testing.T) {
	seen := map[api.Errno]int{}
	for _, wrong := range wrongObjects() {
		is(t, wrong.what, packed(wrong.o), bytesTold(nil, wrong.code))
		seen[wrong.code]++
	}
	is(t, "errors", len(seen), 4)
	is(t, "the zero object", packed(object.Object{}), bytesTold(nil, api.ErrName))
}

// sized: a right object whose bytes are so many.
func sized(n int) object.Object {
	o := obj("m", function("f", ""))
	left := n - len(modelBytes(o))
	f := &o.Fns[0].Fn
	f.Code = times(left/10, code.Ins{Op: 1, V: num(7)})
	for range left % 10 {
		f.Code = append(f.Code, code.Ins{Op: 11})
	}
	return o
}

// sizedByRelocs: the same, with as many open places as there is room for.
func sizedByRelocs(n int) object.Object {
	o := obj(long(32))
	var l []code.Ins
	for size := len(modelBytes(o)) + 12; size+16 < n; size += 84 {
		o.Relocs = append(o.Relocs, object.Reloc{At: len(l), Kind: 2, Mod: long(32), Name: long(32)})
		l = append(l, code.Ins{Op: 10})
	}
	coded(long(32), l...)(&o)
	for len(modelBytes(o)) > n {
		last := len(o.Relocs) - 1
		o.Relocs, o.Fns[0].Fn.Code = o.Relocs[:last], o.Fns[0].Fn.Code[:last]
	}
	for len(modelBytes(o)) < n {
		o.Fns[0].Fn.Code = append(o.Fns[0].Fn.Code, code.Ins{Op: 11})
	}
	return o
}

func TestBytesAtMaxObject(t *testing.T) {
	is(t, "MaxObject", api.MaxObject, 16384)
	for _, of := range []func(n int) object.Object{sized, sizedByRelocs} {
		for _, n := range []int{1000, 16382, 16383, 16384} {
			o := of(n)
			rightIs(t, "just so many bytes", o, api.OK)
			is(t, "so many bytes", len(modelBytes(o)), n)
			is(t, fmt.Sprint("Pack of ", n), packed(o), bytesTold(modelBytes(o), api.OK))
			is(t, fmt.Sprint("Unpack of ", n), unpacked(modelBytes(o)), objectTold(o, api.OK))
		}
		for _, n := range []int{16385, 16386, 16400, 20000} {
			o := of(n)
			rightIs(t, "too many bytes", o, api.OK)
			is(t, "so many bytes", len(modelBytes(o)), n)
			is(t, fmt.Sprint("Pack of ", n), packed(o), bytesTold(nil, api.ErrBig))
			is(t, fmt.Sprint("Unpack of ", n), unpacked(modelBytes(o)), objectTold(object.Object{}, api.ErrBig))
		}
	}
	great := obj("m", coded("f", times(4096, code.Ins{Op: 1, V: num(1)})...))
	is(t, "great code", packed(great), bytesTold(nil, api.ErrBig))
	for _, o := range []object.Object{sized(16385), great} {
		variable("9", num(1))(&o)
		is(t, "too many bytes, and a wrong name", packed(o), bytesTold(nil, api.ErrName))
		o.Vars = nil
		reloc(0, 0, 1, "m", "v")(&o)
		is(t, "too many bytes, and a Reloc too many", packed(o), bytesTold(nil, api.ErrObject))
	}
}

// P1502: Unpack

func TestUnpackOfNoBytes(t *testing.T) {
	is(t, "nil", unpacked(nil), noObject())
	is(t, "none", unpacked([]byte{}), noObject())
	is(t, "all in the spare room", unpacked(unhex(t, exampleBytes)[:0]), noObject())
	is(t, "the mark alone", unpacked([]byte("fobj")), noObject())
}

func TestUnpackOfTooManyBytes(t *testing.T) {
	whole := bytesOf(t, obj("m", variable("v", num(1))))
	for _, n := range []int{16385, 16386, 20000, 1 << 20} {
		big := objectTold(object.Object{}, api.ErrBig)
		is(t, "noughts", unpacked(make([]byte, n)), big)
		is(t, "an object and noughts", unpacked(append(slices.Clone(whole), make([]byte, n-len(whole))...)), big)
	}
	is(t, "16384 noughts", unpacked(make([]byte, 16384)), noObject())
	is(t, "an object and noughts, 16384 in all", unpacked(append(slices.Clone(whole), make([]byte, 16384-len(whole))...)), noObject())
}

func TestUnpackOfBeginningsAndOfMore(t *testing.T) {
	for _, o := range rightObjects() {
		b := bytesOf(t, o)
		step := 1 + len(b)/1500
		for n := 0; n < len(b); n += step {
			if got := unpacked(b[:n]); got != noObject() {
				t.Errorf("the first %d of %s: %s", n, short(key(o)), short(got))
			}
		}
		is(t, "all but the last one", unpacked(b[:len(b)-1]), noObject())
		for _, more := range [][]byte{{0}, {1}, {255}, {0, 0, 0, 0}, []byte("fobj"), b} {
			if got := unpacked(slices.Concat(b, more)); got != noObject() {
				t.Errorf("%s with %x behind it: %s", short(key(o)), more, short(got))
			}
		}
	}
}

func TestUnpackOfATurnedByte(t *testing.T) {
	right, wrong := 0, 0
	for _, o := range []object.Object{
		obj("m"), obj("m", variable("v", num(1))), obj("ab", variable("c", float(1.5)), variable("d", truth(1)), typed("e", []int{1, 2}, 3, []int{1, 2, 3})),
		obj("m", variable("v", num(1)), function("f", "load @m.v; push 1; bin 1; call @k.f; unless 0; un 1; get 1; return"), function("g", "store @m.v; call @m.f")),
	} {
		b := bytesOf(t, o)
		for at := range b {
			for turn := 1; turn < 256; turn++ {
				turned := slices.Clone(b)
				turned[at] ^= byte(turn)
				if !isRead(t, fmt.Sprint("turned at ", at), turned) {
					wrong++
					continue
				}
				right++
				back, _ := object.Unpack(turned)
				is(t, "Pack of Unpack", packed(back), bytesTold(turned, api.OK))
			}
		}
	}
	if right < 5000 || wrong < 5000 {
		t.Errorf("%d right ones and %d wrong ones", right, wrong)
	}
}

func TestUnpackOfAnotherMark(t *testing.T) {
	b := unhex(t, exampleBytes)
	for _, mark := range []string{"fimg", "FOBJ", "obj\x00", "fobk", "gobj", "foob", "\x00\x00\x00\x00"} {
		is(t, mark, unpacked(append([]byte(mark), b[4:]...)), noObject())
	}
	is(t, "without the mark", unpacked(b[4:]), noObject())
	is(t, "with a byte ahead", unpacked(append([]byte{0}, b...)), noObject())
}

func TestUnpackOfWhatIsNotRight(t *testing.T) {
	read := 0
	for _, wrong := range wrongObjects() {
		// A number that has no place in its bytes is written as another one, which may be right.
		b := modelBytes(wrong.o)
		if isRead(t, wrong.what, b) {
			read++
			is(t, wrong.what+" as another one", packed(wrong.o), bytesTold(nil, wrong.code))
			continue
		}
		is(t, wrong.what, unpacked(b), noObject())
	}
	is(t, "those that are read as others", read, 1)
	for _, f := range allFaults() {
		o := faultless()
		f.turn(&o)
		is(t, fmt.Sprint(f.rank, " ", f.what), unpacked(modelBytes(o)), noObject())
	}
}

// Each number that has a byte of its own, with each value of that byte.
func TestUnpackOfEachByte(t *testing.T) {
	right := 0
	for n := range 256 {
		for _, o := range []object.Object{
			obj("m", variable("v", api.Value{Type: n, Bits: 1})), obj("m", typed("f", nil, n, nil)), obj("m", typed("f", []int{1, n}, 0, nil)), obj("m", typed("f", nil, 0, []int{n})),
			obj("m", typed("f", times(n, 1), 0, nil)), obj("m", typed("f", nil, 0, times(n, 1))), obj("m", coded("f", code.Ins{Op: n}), reloc(0, 0, 2, "m", "f")), obj("m", coded("f", code.Ins{Op: n})),
			obj("m", coded("f", code.Ins{Op: 6, N: n})), obj("m", coded("f", code.Ins{Op: 10}), reloc(0, 0, n, "m", "f")), obj("m", coded("f", code.Ins{Op: 10, N: n}), reloc(0, 0, 2, "m", "f")),
			obj("m", coded("f", code.Ins{Op: 10}), reloc(n, 0, 2, "m", "f")), obj("m", coded("f", code.Ins{Op: 10}), reloc(0, n, 2, "m", "f")), obj(string([]byte{byte(n)})), obj("m", variable(string([]byte{'a', byte(n)}), num(1))),
		} {
			if isRead(t, fmt.Sprint("the byte ", n), modelBytes(o)) {
				right++
			}
		}
	}
	is(t, "right ones", right, 3+4+3+3+9+65+1+11+4+1+1+1+1+53+63)
}

// How many there are, told otherwise than it is.
func TestUnpackOfCounts(t *testing.T) {
	counts := []string{"00000000", "00000002", "00000003", "00000040", "00000041", "00010001", "7fffffff", "80000000", "80000001", "ffffffff"}
	for _, c := range []struct{ ahead, behind string }{
		{"666f626a", "6d 00000000 00000000 00000000"},
		{"666f626a 00000001 6d", "00000001 76 01 0000000000000001 00000000 00000000"},
		{"666f626a 00000001 6d 00000001", "76 01 0000000000000001 00000000 00000000"},
		{"666f626a 00000001 6d 00000000", "00000001 66 00 00 00 00000001 0b 00000000"},
		{"666f626a 00000001 6d 00000000 00000001", "66 00 00 00 00000001 0b 00000000"},
		{"666f626a 00000001 6d 00000000 00000001 00000001 66 00 00 00", "0b 00000000"},
		{"666f626a 00000001 6d 00000000 00000001 00000001 66 00 00 00 00000003 0a 0000", "0000 0000 02 00000001 6d 00000001 66"},
		{"666f626a 00000001 6d 00000000 00000001 00000001 66 00 00 00 00000003 0a 0000 00000001 0000 0000 02", "6d 00000001 66"},
		{"666f626a 00000001 6d 00000000 00000001 00000001 66 00 00 00 00000003 0a 0000 00000001 0000 0000 02 00000001 6d", "66"},
	} {
		is(t, c.ahead+" with 1", isRead(t, "1", unhex(t, c.ahead+"00000001"+c.behind)), true)
		for _, n := range counts {
			b := unhex(t, c.ahead+n+c.behind)
			is(t, c.ahead+" with "+n, isRead(t, n, b), false)
			is(t, c.ahead+" with "+n+" and noughts", isRead(t, n, append(b, make([]byte, 1000)...)), false)
		}
	}
}

// More than there may be, told as it is.
func TestUnpackOfTooMany(t *testing.T) {
	for _, o := range []object.Object{
		obj("m", items(65, 0)...), obj("m", items(0, 65)...), obj("m", items(64, 1)...), obj("m", items(33, 32)...), obj("m", items(700, 0)...),
		obj("m", coded("f", times(4097, code.Ins{Op: 11})...)), obj("m", coded("f", times(16000, code.Ins{Op: 11})...)), obj("m", typed("f", times(255, 1), 0, times(255, 1))),
		obj(long(33)), obj("m", variable(long(33), num(1))), obj("m", function(long(1000), "")), obj("m", function("f", "call @"+long(33)+".f")), obj("m", function("f", "call @k."+long(33))),
	} {
		is(t, short(key(o)), unpacked(modelBytes(o)), noObject())
	}
	for _, o := range []object.Object{obj("m", items(64, 0)...), obj("m", items(0, 64)...), obj("m", coded("f", times(4096, code.Ins{Op: 11})...)), obj("m", typed("f", times(8, 1), 0, times(64, 1)))} {
		is(t, short(key(o)), unpacked(modelBytes(o)), objectTold(o, api.OK))
	}
}

// What a function's raw bytes are cut from another place than an instruction's.
func TestUnpackOfCodeThatIsCut(t *testing.T) {
	l, _ := asm("push 1; get 1; jump 1; return")
	whole := modelCode(l)
	for n := range whole {
		b := unhex(t, "666f626a 00000001 6d 00000000 00000001 00000001 66 00 00 00")
		b = append(appendText(b, string(whole[:n])), 0, 0, 0, 0)
		at := []int{0, 10, 12, 15}
		is(t, fmt.Sprint("cut at ", n), isRead(t, fmt.Sprint("cut at ", n), b), slices.Contains(at, n))
	}
}

func TestUnpackIsTheModels(t *testing.T) {
	x := mixer(1502)
	right := 0
	for range 30000 {
		b := modelBytes(x.near(x.object()))
		switch x.below(5) {
		case 0:
			b = b[:x.below(len(b))]
		case 1:
			b[x.below(len(b))] = byte(x.below(5))
		case 2:
			b = slices.Insert(b, x.below(len(b)), byte(x.below(3)))
		}
		if isRead(t, "mixed", b) {
			right++
		}
	}
	if right < 1000 || right > 29000 {
		t.Errorf("%d of them right", right)
	}
}

func TestPackIsTheModels(t *testing.T) {
	x := mixer(1503)
	right := 0
	for range 40000 {
		o := x.near(x.object())
		if x.below(3) == 0 {
			o = x.near(o)
		}
		if got, want := packed(o), modelPacked(o); got != want {
			t.Fatalf("Pack: %s, not %s, of %s", got, want, key(o))
		}
		if object.Right(o) == api.OK {
			right++
		}
	}
	if right < 4000 || right > 36000 {
		t.Errorf("%d of them right", right)
	}
}

// P1504

func TestThereAndBack(t *testing.T) {
	l := rightObjects()
	x := mixer(1504)
	for range 5000 {
		l = append(l, x.object())
	}
	for _, o := range l {
		b := bytesOf(t, o)
		back, e := object.Unpack(b)
		if e != api.OK || !object.Same(back, o) || key(back) != key(o) {
			t.Fatalf("%s came back as %s", key(o), objectTold(back, e))
		}
		is(t, "Pack of Unpack", packed(back), bytesTold(b, api.OK))
	}
}

// P1505

func TestBytesAreAlikeJustIfObjectsAre(t *testing.T) {
	l := rightObjects()
	x := mixer(1505)
	for range 150 {
		l = append(l, x.object())
	}
	var all [][]byte
	for _, o := range l {
		all = append(all, bytesOf(t, o))
	}
	for n, a := range l {
		for m, b := range l {
			if bytes.Equal(all[n], all[m]) != object.Same(a, b) {
				t.Fatalf("%s and %s: not the same by their bytes and by Same", short(key(a)), short(key(b)))
			}
		}
	}
}
