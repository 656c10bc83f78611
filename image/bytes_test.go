package image_test

import (
	"bytes"
	"encoding/binary"
	"encoding/hex"
	"fmt"
	"hash/fnv"
	"slices"
	"testing"

	"foundry/api"
	"foundry/code"
	"foundry/image"
)

// bytesOf: the bytes of an image that has to be right, and not too big.
func bytesOf(t *testing.T, i image.Image) []byte {
	t.Helper()
	b, e := image.Pack(i)
	if e != api.OK {
		t.Fatalf("Pack: %v of %s", e, short(key(i)))
	}
	return b
}

// isRead fails unless Unpack answers of these bytes what the model does; it tells whether they are an image's.
func isRead(t *testing.T, what string, b []byte) bool {
	t.Helper()
	i, e := modelUnpack(b)
	if got, want := unpacked(b), imageTold(i, e); got != want {
		t.Errorf("%s: Unpack of %s: %s, not %s", what, short(hex.EncodeToString(b)), short(got), short(want))
	}
	return e == api.OK
}

// P1703

func TestSum(t *testing.T) {
	for _, c := range []struct {
		text string
		want uint32
	}{
		{"", 0x811c9dc5}, {"\x00", 0x050c5d1f}, {"a", 0xe40c292c}, {"b", 0xe70c2de5}, {"foo", 0xa9f37ed7}, {"foobar", 0xbf9cf968}, {"ab", 0x4d2505ca},
	} {
		is(t, fmt.Sprintf("Sum of %q", c.text), image.Sum([]byte(c.text)), c.want)
	}
	is(t, "Sum of none", image.Sum(nil), 2166136261)
	is(t, "Sum of an empty list", image.Sum(make([]byte, 0, 9)), 2166136261)
}

func TestSumIsTheLibrarys(t *testing.T) {
	m := mixer(1703)
	high := 0
	for n := range 2000 {
		b := make([]byte, n%300)
		for at := range b {
			b[at] = byte(m.next())
		}
		h := fnv.New32a()
		h.Write(b)
		is(t, "Sum", image.Sum(b), h.Sum32())
		if h.Sum32() >= 1<<31 {
			high++
		}
	}
	if high < 500 || high > 1500 {
		t.Errorf("%d of the Sums have the highest bit", high)
	}
	h := fnv.New32a()
	h.Write(make([]byte, 1<<20))
	is(t, "Sum of many noughts", image.Sum(make([]byte, 1<<20)), h.Sum32())
}

// P1702: Pack

func TestPack(t *testing.T) {
	for _, c := range []struct {
		i    image.Image
		want string
	}{
		{img(fn(":i", "", "jump 0")), "66696d67 00000000 00000001 00 01 00 00000003 08 0000 00000000"},
		{from(1, img(fn("", "", "return"), five())), "66696d67 00000000 00000002 00 00 00 00000001 0b 00 01 00 0000000b 01 01 0000000000000005 0b 00000001"},
		{withVars(img(fn(":i", "", "jump 0")), num(1), num(-2), truth(0), truth(1)), "66696d67 00000004 01 0000000000000001 01 fffffffffffffffe 03 0000000000000000 03 0000000000000001 00000001 00 01 00 00000003 08 0000 00000000"},
		{withVars(img(fn(":i", "", "jump 0")), float(1.5), float(0), api.Value{Type: 2, Bits: 1 << 63}, api.Value{Type: 2, Bits: 0x7ff8000000000001}, api.Value{Type: 2, Bits: 0xfff0000000000000}), "66696d67 00000005 02 3ff8000000000000 02 0000000000000000 02 8000000000000000 02 7ff8000000000001 02 fff0000000000000 00000001 00 01 00 00000003 08 0000 00000000"},
		{img(fn(":i", "ifb", "jump 0")), "66696d67 00000000 00000001 00 01 03 010203 00000003 08 0000 00000000"},
		{img(fn(":i", "", "jump 0"), fn("ifb:f", "", "jump 0")), "66696d67 00000000 00000002 00 01 00 00000003 08 0000 03 010203 02 03 010203 00000003 08 0000 00000000"},
		{img(fn(":i", "", "jump 0"), fn("bf:b", "ib", "jump 0")), "66696d67 00000000 00000002 00 01 00 00000003 08 0000 02 0302 03 04 03020103 00000003 08 0000 00000000"},
		{withVars(img(fn(":i", "", "load 0; call 1; return"), fn("i:i", "", "get 0; un 1; return")), num(0x0102030405060708)), "66696d67 00000001 01 0102030405060708 00000002 00 01 00 00000007 04 0000 0a 0001 0b 01 01 01 01 01 00000005 02 00 06 01 0b 00000000"},
	} {
		want := sealed(unhex(c.want))
		is(t, key(c.i), packed(c.i), bytesTold(want, api.OK))
		is(t, c.want, unpacked(want), imageTold(c.i, api.OK))
	}
	for _, i := range rightImages() {
		isText(t, key(i), packed(i), bytesTold(modelBytes(i), api.OK))
	}
}

// The NaN that there is.
func TestPackOfNaN(t *testing.T) {
	nan := rightValues()[2]
	b := bytesOf(t, withVars(img(five()), nan))
	is(t, "its bytes", bytes.HasPrefix(b[8:], binary.BigEndian.AppendUint64([]byte{2}, nan.Bits)), true)
}

// All 32 bits of the Sum are there: of some images it has the highest one, of some it has not.
func TestPackOfAllBitsOfTheSum(t *testing.T) {
	ones, noughts := uint32(0), uint32(0)
	for n := range int64(200) {
		b := bytesOf(t, img(fn(":i", "", fmt.Sprint("push ", n, "; return"))))
		h := fnv.New32a()
		h.Write(b[:len(b)-4])
		is(t, "the last four bytes", binary.BigEndian.Uint32(b[len(b)-4:]), h.Sum32())
		is(t, "Sum of those ahead of them", image.Sum(b[:len(b)-4]), h.Sum32())
		ones, noughts = ones|h.Sum32(), noughts|^h.Sum32()
	}
	is(t, "the bits that were 1", ones, 1<<32-1)
	is(t, "the bits that were 0", noughts, 1<<32-1)
}

func TestPackOfWhatIsNotRight(t *testing.T) {
	for _, wrong := range wrongImages() {
		is(t, wrong.what, packed(wrong.i), bytesTold(nil, wrong.code))
	}
}

// sized: a right image whose bytes are so many, most of them code.
func sized(n int) image.Image {
	i := img(five(), fn("", "", "return"), fn("", "", "return"), fn("", "", "return"))
	left := n - len(modelBytes(i))
	for at := 1; left > 0; at++ {
		f := &i.Fns[at]
		for left > 0 && len(f.Code) < 4096 {
			more := code.Ins{Op: 11}
			if left >= 10 {
				more = code.Ins{Op: 1, V: num(7)}
			}
			f.Code = append(f.Code, more)
			left -= len(modelCode([]code.Ins{more}))
		}
	}
	return i
}

// sizedByParts: the same, with as many variables and functions as there is room for.
func sizedByParts(n int) image.Image {
	i := withVars(img(five()), times(2048, float(0.1))...)
	for left := n - len(modelBytes(i)); left > 0; {
		f := fn("iiiiiiii:i", "bbbbb", "get 7; return; show; show; show; show")
		if left < 80 {
			f = code.Fn{Code: times(left-7, code.Ins{Op: 11})}
		}
		i.Fns = append(i.Fns, f)
		left -= len(modelInner(img(f))) - len(modelInner(img()))
	}
	return i
}

func TestBytesAtMaxImage(t *testing.T) {
	is(t, "MaxImage", api.MaxImage, 65536)
	for _, of := range []func(n int) image.Image{sized, sizedByParts} {
		for _, n := range []int{40000, 65530, 65531, 65532, 65533, 65534, 65535, 65536} {
			i := of(n)
			is(t, "so many bytes", len(modelBytes(i)), n)
			isText(t, fmt.Sprint("Pack of ", n), packed(i), bytesTold(modelBytes(i), api.OK))
			isText(t, fmt.Sprint("Unpack of ", n), unpacked(modelBytes(i)), imageTold(i, api.OK))
		}
		for _, n := range []int{65537, 65538, 65539, 65540, 65541, 65544, 66000, 70000} {
			i := of(n)
			rightIs(t, "too many bytes", i, api.OK)
			is(t, "so many bytes", len(modelBytes(i)), n)
			isText(t, fmt.Sprint("Pack of ", n), packed(i), bytesTold(nil, api.ErrBig))
			isText(t, fmt.Sprint("Unpack of ", n), unpacked(modelBytes(i)), tooBig())
			is(t, "Text of it", image.Text(i) == modelText(i), true)
			i.Main = -1
			isText(t, "too many bytes, and no Main", packed(i), bytesTold(nil, api.ErrImage))
			i.Main = 0
			i.Fns = append(i.Fns, fn("", "", "push 1; jump 0"))
			isText(t, "too many bytes, and another shape", packed(i), bytesTold(nil, api.ErrType))
		}
	}
	great := img(times(300, sized(40000).Fns[1])...)
	great.Fns[0] = five()
	is(t, "a great one", packed(great), bytesTold(nil, api.ErrBig))
}

// P1702: Unpack

func TestUnpackOfNoBytes(t *testing.T) {
	is(t, "nil", unpacked(nil), noImage())
	is(t, "none", unpacked([]byte{}), noImage())
	is(t, "all in the spare room", unpacked(sealed(unhex(exampleBytes))[:0]), noImage())
	for n := range 40 {
		is(t, "noughts", unpacked(make([]byte, n)), noImage())
		is(t, "noughts with their Sum", unpacked(sealed(make([]byte, n))), noImage())
	}
	is(t, "the mark alone", unpacked([]byte("fimg")), noImage())
	is(t, "the mark and its Sum", unpacked(sealed([]byte("fimg"))), noImage())
}

func TestUnpackOfTooManyBytes(t *testing.T) {
	one := bytesOf(t, img(five()))
	for _, n := range []int{65537, 65538, 100000, 1 << 20} {
		is(t, "noughts", unpacked(make([]byte, n)), tooBig())
		is(t, "an image and noughts", unpacked(append(slices.Clone(one), make([]byte, n-len(one))...)), tooBig())
	}
	is(t, "65536 noughts", unpacked(make([]byte, 65536)), noImage())
	is(t, "an image and noughts, 65536 in all", unpacked(append(slices.Clone(one), make([]byte, 65536-len(one))...)), noImage())
}

func TestUnpackOfBeginningsAndOfMore(t *testing.T) {
	for _, i := range rightImages() {
		b := bytesOf(t, i)
		step := 1 + len(b)/300
		if len(b) > 10000 {
			step = len(b) / 30
		}
		for n := 0; n < len(b); n += step {
			isText(t, fmt.Sprintf("the first %d of %s", n, short(key(i))), unpacked(b[:n]), noImage())
			if n != len(b)-4 {
				isText(t, fmt.Sprintf("the first %d of %s, with their Sum", n, short(key(i))), unpacked(sealed(b[:n])), noImage())
			}
		}
		isText(t, "all but the last one", unpacked(b[:len(b)-1]), noImage())
		isText(t, "all but the first one", unpacked(b[1:]), noImage())
		isText(t, "all but the Sum", unpacked(b[:len(b)-4]), noImage())
		for _, more := range [][]byte{{0}, {1}, {255}, {0, 0, 0, 0}, []byte("fimg"), b} {
			isText(t, fmt.Sprintf("%s with %x behind it", short(key(i)), short(string(more))), unpacked(slices.Concat(b, more)), noOrBig(len(b)+len(more)))
			isText(t, "more behind it, with the Sum", unpacked(sealed(slices.Concat(b[:len(b)-4], more))), noOrBig(len(b)+len(more)))
			isText(t, "more ahead of it, with the Sum", unpacked(sealed(slices.Concat(more, b[:len(b)-4]))), noOrBig(len(b)+len(more)))
		}
	}
}

func noOrBig(n int) string {
	if n > 65536 {
		return tooBig()
	}
	return noImage()
}

// someImages: few images that have all kinds of parts.
func someImages() []image.Image {
	return []image.Image{
		img(five()), from(1, img(fn("", "", "return"), five())), withVars(img(five()), num(1), float(1.5), truth(1)),
		withVars(img(fn(":i", "ib", "push 3; load 0; call 1; unless 4; input; return"), fn("if:b", "i", "get 0; put 2; try 5; untry; jump 6; drop; load 1; return"), fn("", "f", "get 0; un 1; store 0; return")), float(1.5), truth(0)),
	}
}

// P1706

func TestUnpackOfATurnedByte(t *testing.T) {
	for _, i := range append(someImages(), made(3), made(4), made(5)) {
		b := bytesOf(t, i)
		for at := range b {
			for turn := 1; turn < 256; turn++ {
				turned := slices.Clone(b)
				turned[at] ^= byte(turn)
				if got := unpacked(turned); got != noImage() {
					t.Fatalf("turned at %d by %d: %s", at, turn, short(got))
				}
			}
		}
	}
}

func TestUnpackOfATurnedByteOfGreatOnes(t *testing.T) {
	m := mixer(1706)
	for _, i := range []image.Image{sized(65536), sizedByParts(65536), sized(30000)} {
		b := bytesOf(t, i)
		for n := range 3000 {
			at := m.below(len(b))
			if n < 20 {
				at = n
			} else if n < 40 {
				at = len(b) - 40 + n
			}
			ahead := b[at]
			b[at] ^= byte(1 + m.below(255))
			if got := unpacked(b); got != noImage() {
				t.Fatalf("turned at %d: %s", at, short(got))
			}
			b[at] = ahead
		}
	}
}

// With the Sum of the turned bytes behind them some are another image's.
func TestUnpackOfATurnedByteWithItsSum(t *testing.T) {
	right, wrong := 0, 0
	for _, i := range someImages() {
		b := modelInner(i)
		for at := range b {
			for turn := 1; turn < 256; turn++ {
				turned := slices.Clone(b)
				turned[at] ^= byte(turn)
				turned = sealed(turned)
				if !isRead(t, fmt.Sprint("turned at ", at), turned) {
					wrong++
					continue
				}
				right++
				back, _ := image.Unpack(turned)
				is(t, "Pack of Unpack", packed(back), bytesTold(turned, api.OK))
			}
		}
	}
	if right < 5000 || wrong < 5000 {
		t.Errorf("%d right ones and %d wrong ones", right, wrong)
	}
}

func TestUnpackOfAnotherMark(t *testing.T) {
	b := unhex(exampleBytes)
	for _, mark := range []string{"fobj", "FIMG", "img\x00", "fimh", "gimg", "fiimg", "\x00\x00\x00\x00", ""} {
		is(t, mark, unpacked(sealed(append([]byte(mark), b[4:]...))), noImage())
	}
	is(t, "with a byte ahead", unpacked(sealed(append([]byte{0}, b...))), noImage())
}

// The Sum of other bytes, or written otherwise.
func TestUnpackOfAnotherSum(t *testing.T) {
	b := unhex(exampleBytes)
	sum := image.Sum(b)
	other := fnv.New32()
	other.Write(b)
	for _, n := range []uint32{0, 1, sum + 1, sum - 1, ^sum, sum ^ 1<<31, sum &^ (1 << 31), 2166136261, other.Sum32(), image.Sum(b[4:]), image.Sum(b[1:])} {
		if n != sum {
			is(t, fmt.Sprintf("the Sum %x", n), unpacked(binary.BigEndian.AppendUint32(slices.Clone(b), n)), noImage())
		}
	}
	is(t, "the lowest byte first", unpacked(binary.LittleEndian.AppendUint32(slices.Clone(b), sum)), noImage())
	is(t, "no Sum", unpacked(b), noImage())
	is(t, "the Sum twice", unpacked(sealed(sealed(b))), noImage())
	is(t, "the Sum", unpacked(binary.BigEndian.AppendUint32(slices.Clone(b), sum)), imageTold(img(five()), api.OK))
}

func TestUnpackOfWhatIsNotRight(t *testing.T) {
	read := 0
	for _, wrong := range wrongImages() {
		// A number that has no place in its bytes is written as another one, which may be right.
		b := modelBytes(wrong.i)
		if isRead(t, wrong.what, b) {
			read++
			continue
		}
		isText(t, wrong.what, unpacked(b), noImage())
	}
	is(t, "those that are read as others", read, 3)
	for _, f := range allFaults() {
		i := faultless()
		f.turn(&i)
		isText(t, fmt.Sprint(f.rank, " ", f.what), unpacked(modelBytes(i)), noImage())
	}
}

// Each number that has a byte of its own, with each value of that byte.
func TestUnpackOfEachByte(t *testing.T) {
	right := 0
	for n := range 256 {
		always := asm("jump 0")
		for _, i := range []image.Image{
			withVars(img(five()), api.Value{Type: n, Bits: 1}), img(code.Fn{Sig: code.Sig{Result: n}, Code: always}), img(five(), code.Fn{Sig: code.Sig{Result: n}, Code: always}),
			img(five(), code.Fn{Sig: code.Sig{Params: []int{1, n}}, Locals: []int{1, n}, Code: always}), img(five(), code.Fn{Locals: []int{n}, Code: always}),
			img(five(), code.Fn{Sig: code.Sig{Params: times(n, 1)}, Locals: times(n, 1), Code: always}), img(five(), code.Fn{Locals: times(n, 1), Code: always}),
			img(five(), code.Fn{Code: []code.Ins{{Op: 11}, {Op: n}}}), img(five(), code.Fn{Code: []code.Ins{{Op: 11}, {Op: 6, N: n}}}), img(five(), code.Fn{Code: []code.Ins{{Op: 10, N: n}, {Op: 11}}}),
			img(fn(":i", "", "jump 0"), code.Fn{Code: []code.Ins{{Op: 1, V: api.Value{Type: n, Bits: 1}}, {Op: 11}}}), from(n, img(times(9, five())...)),
		} {
			if isRead(t, fmt.Sprint("the byte ", n), modelBytes(i)) {
				right++
			}
		}
	}
	is(t, "right ones", right, 3+1+4+3+3+9+65+(17-1-2)+4+2+3+9)
}

// How many there are, told otherwise than it is.
func TestUnpackOfCounts(t *testing.T) {
	counts := []string{"00000000", "00000002", "00000003", "00000800", "00000801", "00010001", "7fffffff", "80000000", "80000001", "80000800", "ffffffff"}
	for _, c := range []struct{ ahead, behind string }{
		{"66696d67", "03 0000000000000001 00000001 00 01 00 0000000b 01 01 0000000000000005 0b 00000000"},
		{"66696d67 00000000", "00 01 00 0000000b 01 01 0000000000000005 0b 00000000"},
		{"66696d67 00000000 00000002 00 01 00 00000003 08 0000 00 00 00", "0b 00000000"},
		{"66696d67 00000000 00000002 00 00 00 00000001 0b 00 01 00 00000003 08 0000", ""},
	} {
		is(t, c.ahead+" with 1", isRead(t, "1", sealed(unhex(c.ahead+"00000001"+c.behind))), true)
		for _, n := range counts {
			b := unhex(c.ahead + n + c.behind)
			is(t, c.ahead+" with "+n, isRead(t, n, sealed(b)), false)
			is(t, c.ahead+" with "+n+" and noughts", isRead(t, n, sealed(append(b, make([]byte, 1000)...))), false)
		}
	}
	for _, count := range []string{"01", "ff"} {
		b := unhex("66696d67 00000000 00000001" + count + "01 00 00000003 08 0000 00000000")
		is(t, "Params", isRead(t, count, sealed(b)), false)
		b = unhex("66696d67 00000000 00000001 00 01" + count + "00000003 08 0000 00000000")
		is(t, "Locals", isRead(t, count, sealed(b)), false)
	}
}

// More than there may be, told as it is.
func TestUnpackOfTooMany(t *testing.T) {
	small := code.Fn{Sig: code.Sig{Result: 1}, Code: asm("jump 0")}
	for _, i := range []image.Image{
		withVars(img(small), times(2049, num(1))...), withVars(img(small), times(7000, num(1))...), img(times(2049, small)...), img(times(6500, small)...), img(small, code.Fn{Code: times(4097, code.Ins{Op: 11})}), img(small, code.Fn{Code: times(60000, code.Ins{Op: 11})}),
		img(small, code.Fn{Sig: code.Sig{Params: times(9, 1)}, Locals: times(9, 1), Code: asm("return")}), img(small, code.Fn{Locals: times(65, 1), Code: asm("return")}),
	} {
		isText(t, key(i), unpacked(modelBytes(i)), noImage())
	}
	for _, i := range []image.Image{withVars(img(small), times(2048, num(1))...), img(times(2048, small)...), img(small, code.Fn{Code: times(4096, code.Ins{Op: 11})})} {
		isText(t, key(i), unpacked(modelBytes(i)), imageTold(i, api.OK))
	}
}

// Where a function's raw bytes are cut at another place than an instruction's.
func TestUnpackOfCodeThatIsCut(t *testing.T) {
	l := modelCode(asm("jump 0; push 1; get 0; return"))
	for n := range len(l) + 1 {
		b := unhex("66696d67 00000000 00000001 00 01 00")
		b = append(binary.BigEndian.AppendUint32(b, uint32(n)), l[:n]...)
		what := fmt.Sprint("cut at ", n)
		is(t, what, isRead(t, what, sealed(append(b, 0, 0, 0, 0))), slices.Contains([]int{3, 13, 15, 16}, n))
	}
}

func TestUnpackIsTheModels(t *testing.T) {
	m := mixer(1702)
	right := 0
	for seed := range uint64(8000) {
		b := modelInner(m.near(made(seed)))
		switch m.below(5) {
		case 0:
			b = b[:m.below(len(b))]
		case 1:
			b[m.below(len(b))] = byte(m.below(5))
		case 2:
			b = slices.Insert(b, m.below(len(b)), byte(m.below(3)))
		}
		if isRead(t, "mixed", sealed(b)) {
			right++
		}
	}
	if right < 500 || right > 7500 {
		t.Errorf("%d of them right", right)
	}
}

func TestPackIsTheModels(t *testing.T) {
	m := mixer(1705)
	for seed := range uint64(8000) {
		i := m.near(made(seed))
		if got, want := packed(i), modelPacked(i); got != want {
			t.Fatalf("Pack: %s, not %s, of %s", got, want, key(i))
		}
	}
}

// P1705

func TestThereAndBack(t *testing.T) {
	l := rightImages()
	for seed := range uint64(4000) {
		l = append(l, made(seed))
	}
	for _, i := range l {
		b := bytesOf(t, i)
		back, e := image.Unpack(b)
		if e != api.OK || !image.Same(back, i) || key(back) != key(i) {
			t.Fatalf("%s came back as %s", short(key(i)), short(imageTold(back, e)))
		}
		isText(t, "Pack of Unpack", packed(back), bytesTold(b, api.OK))
	}
}

func TestBytesAreAlikeJustIfImagesAre(t *testing.T) {
	bytesOfOthers := map[string]string{}
	l := rightImages()
	for seed := range uint64(1000) {
		l = append(l, made(seed))
	}
	for _, i := range l {
		b := string(bytesOf(t, i))
		if other, there := bytesOfOthers[b]; there && other != key(i) {
			t.Errorf("%s and %s have the same bytes", short(other), short(key(i)))
		}
		bytesOfOthers[b] = key(i)
	}
	if len(bytesOfOthers) < len(rightImages())+500 {
		t.Errorf("%d unlike ones", len(bytesOfOthers))
	}
}
