package code_test

import (
	"bytes"
	"encoding/hex"
	"fmt"
	"slices"
	"strings"
	"testing"

	"foundry/api"
	"foundry/code"
)

// unhex: the bytes that are written in a text, blanks aside.
func unhex(t *testing.T, text string) []byte {
	t.Helper()
	b, err := hex.DecodeString(strings.ReplaceAll(text, " ", ""))
	if err != nil {
		t.Fatal(err)
	}
	return b
}

// encoded: what Encode answers, as one text.
func encoded(l []code.Ins) string {
	b, e := code.Encode(l)
	return bytesTold(b, e)
}

func bytesTold(b []byte, e api.Errno) string {
	return fmt.Sprintf("%x %d", b, int(e))
}

// decoded: what Decode answers, as one text.
func decoded(b []byte) string {
	l, e := code.Decode(b)
	return insTold(l, e)
}

func insTold(l []code.Ins, e api.Errno) string {
	return fmt.Sprint(key(l), int(e))
}

// modelAll: the bytes of right instructions, one behind the other.
func modelAll(l []code.Ins) []byte {
	var b []byte
	for _, i := range l {
		b = append(b, modelBytes(i)...)
	}
	return b
}

func TestExamplesOfBytes(t *testing.T) {
	l := asm("push 1; get 2; bin +; call 258; return")
	want := "01 01 0000000000000001 02 02 07 01 0a 0102 0b"
	is(t, "Encode", encoded(l), bytesTold(unhex(t, want), api.OK))
	is(t, "Decode", decoded(unhex(t, want)), insTold(l, api.OK))
	is(t, "Decode of 0b 0b", decoded([]byte{11, 11}), insTold(asm("return; return"), api.OK))
	for _, b := range [][]byte{{8, 0}, {0x12}, {6, 5}} {
		is(t, fmt.Sprintf("Decode of %x", b), decoded(b), insTold(nil, api.ErrCode))
	}
}

// F14.1: Encode, Decode

func TestBytesOfEachOp(t *testing.T) {
	for _, c := range []struct {
		text, want string
	}{
		{"push 0", "01 01 0000000000000000"}, {"push -1", "01 01 ffffffffffffffff"}, {"push 72623859790382856", "01 01 0102030405060708"},
		{"push 1.5", "01 02 3ff8000000000000"}, {"push false", "01 03 0000000000000000"}, {"push true", "01 03 0000000000000001"},
		{"get 0", "02 00"}, {"get 255", "02 ff"}, {"put 1", "03 01"}, {"put 255", "03 ff"},
		{"load 0", "04 0000"}, {"load 258", "04 0102"}, {"load 65535", "04 ffff"}, {"store 1", "05 0001"}, {"store 256", "05 0100"},
		{"un neg", "06 01"}, {"un float", "06 04"}, {"bin +", "07 01"}, {"bin >=", "07 0b"},
		{"jump 0", "08 0000"}, {"jump 4095", "08 0fff"}, {"unless 513", "09 0201"}, {"call 65535", "0a ffff"},
		{"return", "0b"}, {"show", "0c"}, {"fail", "0d"}, {"input", "0e"}, {"try 772", "0f 0304"}, {"untry", "10"}, {"drop", "11"},
	} {
		is(t, "Encode of "+c.text, encoded(asm(c.text)), bytesTold(unhex(t, c.want), api.OK))
		is(t, "Decode of "+c.want, decoded(unhex(t, c.want)), insTold(asm(c.text), api.OK))
	}
}

func TestBytesOfAllRightInstructions(t *testing.T) {
	all := rightIns()
	for _, i := range all {
		one := []code.Ins{i}
		is(t, code.Text(i), encoded(one), bytesTold(modelBytes(i), api.OK))
		is(t, code.Text(i), decoded(modelBytes(i)), insTold(one, api.OK))
		is(t, code.Text(i)+": Size", code.Size(i), len(modelBytes(i)))
	}
	is(t, "all at once", encoded(all), bytesTold(modelAll(all), api.OK))
	is(t, "all at once, back", decoded(modelAll(all)), insTold(all, api.OK))
}

func TestBytesOfNone(t *testing.T) {
	is(t, "Encode of nil", encoded(nil), bytesTold(nil, api.OK))
	is(t, "Encode of none", encoded([]code.Ins{}), bytesTold(nil, api.OK))
	is(t, "Encode of what is in the spare room", encoded(asm("return; return")[:0]), bytesTold(nil, api.OK))
	is(t, "Decode of nil", decoded(nil), insTold(nil, api.OK))
	is(t, "Decode of none", decoded([]byte{}), insTold(nil, api.OK))
	is(t, "Decode of what is in the spare room", decoded([]byte{0x12, 0x12}[:0]), insTold(nil, api.OK))
}

func TestEncodeOfWhatIsNotRight(t *testing.T) {
	for _, wrong := range wrongIns() {
		for _, l := range [][]code.Ins{
			{wrong}, append(asm("return; get 1"), wrong), append([]code.Ins{wrong}, asm("push 1; drop")...), cat(asm("return"), []code.Ins{wrong}, asm("jump 3")),
		} {
			is(t, fmt.Sprintf("%+v", l), encoded(l), bytesTold(nil, api.ErrCode))
		}
	}
}

func TestEncodeAtTheLimit(t *testing.T) {
	wrong := []code.Ins{{Op: 99}}
	for _, text := range []string{"push 1", "return", "jump 4095", "get 255"} {
		full := many(code.MaxCode, text)
		is(t, "MaxCode of "+text, encoded(full), bytesTold(modelAll(full), api.OK))
		is(t, "MaxCode of "+text+", back", decoded(modelAll(full)), insTold(full, api.OK))
		is(t, "the last one not right", encoded(append(many(code.MaxCode-1, text), wrong...)), bytesTold(nil, api.ErrCode))
		is(t, "one more", encoded(append(full, asm(text)...)), bytesTold(nil, api.ErrBig))
		is(t, "one more that is not right", encoded(append(many(code.MaxCode, text), wrong...)), bytesTold(nil, api.ErrBig))
		is(t, "the first one of too many not right", encoded(append(slices.Clone(wrong), many(code.MaxCode, text)...)), bytesTold(nil, api.ErrBig))
	}
	is(t, "many more", encoded(many(3*code.MaxCode, "drop")), bytesTold(nil, api.ErrBig))
}

func TestDecodeAtTheLimit(t *testing.T) {
	for _, text := range []string{"push 1", "return", "jump 4095", "get 255"} {
		full, one := modelAll(many(code.MaxCode, text)), modelAll(asm(text))
		more := slices.Concat(full, one)
		is(t, "one more "+text, decoded(more), insTold(nil, api.ErrBig))
		is(t, "many more", decoded(slices.Concat(full, full)), insTold(nil, api.ErrBig))
		// What stands behind the first one that is too many does not matter.
		for _, behind := range [][]byte{{0}, {0x12}, {6, 5}, {8, 0}, {1, 4}, {255}} {
			is(t, fmt.Sprintf("too many, and %x", behind), decoded(slices.Concat(more, behind)), insTold(nil, api.ErrBig))
		}
		// An instruction that is not right, or not whole, is not one more.
		for _, behind := range [][]byte{{0}, {0x12}, {6, 5}, {8, 0}, {1, 1, 0, 0}, {255, 11}} {
			is(t, fmt.Sprintf("MaxCode, and %x", behind), decoded(slices.Concat(full, behind)), insTold(nil, api.ErrCode))
		}
		is(t, "one that is not right ahead of too many", decoded(slices.Concat([]byte{0x12}, more)), insTold(nil, api.ErrCode))
		last := slices.Concat(modelAll(many(code.MaxCode-1, text)), []byte{7, 12}, full)
		is(t, "the last of MaxCode not right", decoded(last), insTold(nil, api.ErrCode))
	}
}

func TestDecodeOfWhatIsCut(t *testing.T) {
	for _, i := range rightIns() {
		b := modelBytes(i)
		for n := 1; n < len(b); n++ {
			is(t, fmt.Sprintf("%x", b[:n]), decoded(b[:n]), insTold(nil, api.ErrCode))
			is(t, fmt.Sprintf("0b %x", b[:n]), decoded(append([]byte{11}, b[:n]...)), insTold(nil, api.ErrCode))
		}
	}
}

func TestDecodeOfWhatIsNoInstruction(t *testing.T) {
	for op := range 256 {
		if op >= 1 && op <= lastOp {
			continue
		}
		for _, b := range [][]byte{{byte(op)}, append([]byte{byte(op)}, make([]byte, 20)...), {11, byte(op)}, {byte(op), 11}} {
			is(t, fmt.Sprintf("%x", b), decoded(b), insTold(nil, api.ErrCode))
		}
	}
	for n := range 256 {
		un, bin := insTold(nil, api.ErrCode), insTold(nil, api.ErrCode)
		if n >= 1 && n <= 4 {
			un = insTold([]code.Ins{{Op: 6, N: n}}, api.OK)
		}
		if n >= 1 && n <= 11 {
			bin = insTold([]code.Ins{{Op: 7, N: n}}, api.OK)
		}
		is(t, fmt.Sprintf("06 %x", n), decoded([]byte{6, byte(n)}), un)
		is(t, fmt.Sprintf("07 %x", n), decoded([]byte{7, byte(n)}), bin)
		typed := []byte{1, byte(n), 0, 0, 0, 0, 0, 0, 0, 1}
		is(t, fmt.Sprintf("%x", typed), strings.HasSuffix(decoded(typed), fmt.Sprint(int(api.OK))), n >= 1 && n <= 3)
	}
	for _, text := range []string{"01 03 0000000000000002", "01 03 0100000000000000", "01 02 7ff8000000000000", "01 02 fff8000000000001", "01 02 ffffffffffffffff", "01 00 0000000000000000"} {
		is(t, text, decoded(unhex(t, text)), insTold(nil, api.ErrCode))
	}
}

// All bytes of up to two, and many of three that begin with an Op.
func TestDecodeOfFewBytes(t *testing.T) {
	hold := func(b []byte) {
		l, e := modelDecode(b)
		if got, want := decoded(b), insTold(l, e); got != want {
			t.Errorf("Decode of %x: %s, not %s", b, got, want)
		}
	}
	for a := range 256 {
		hold([]byte{byte(a)})
		for b := range 256 {
			hold([]byte{byte(a), byte(b)})
			if a <= lastOp+1 && b <= lastOp+1 {
				for c := range 20 {
					hold([]byte{byte(a), byte(b), byte(c)})
				}
			}
		}
	}
}

// P1401: there and back

func randomIns(m *mixer) code.Ins {
	op := 1 + m.below(lastOp)
	if op == 1 {
		return push(pick(m, rightValues()))
	}
	r := opRows[op]
	return code.Ins{Op: op, N: r.least + m.below(r.most-r.least+1)}
}

func TestThereAndBack(t *testing.T) {
	m := mixer(1401)
	for round := range 3000 {
		var l []code.Ins
		sizes := 0
		for range m.below(12) {
			l = append(l, randomIns(&m))
			sizes += code.Size(l[len(l)-1])
		}
		b, e := code.Encode(l)
		what := fmt.Sprint("round ", round)
		is(t, what+": Encode", e, api.OK)
		is(t, what+": the Sizes together", len(b), sizes)
		is(t, what+": the bytes", string(b), string(modelAll(l)))
		is(t, what+": Decode of Encode", decoded(b), insTold(l, api.OK))
	}
}

func TestBackAndThere(t *testing.T) {
	m := mixer(14010)
	right := 0
	for range 40000 {
		var b []byte
		for range m.below(4) {
			b = append(b, modelBytes(randomIns(&m))...)
		}
		for range m.below(3) {
			if len(b) > 0 {
				b[m.below(len(b))] = byte(m.below(20))
			}
		}
		want, wantE := modelDecode(b)
		l, e := code.Decode(b)
		if insTold(l, e) != insTold(want, wantE) {
			t.Fatalf("Decode of %x: %s, not %s", b, insTold(l, e), insTold(want, wantE))
		}
		if e != api.OK {
			continue
		}
		right++
		again, e := code.Encode(l)
		if e != api.OK || !bytes.Equal(again, b) {
			t.Fatalf("Encode of Decode of %x: %x %v", b, again, e)
		}
	}
	is(t, "many were right, many were not", right > 8000 && right < 32000, true)
}
