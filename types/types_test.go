package types_test

import (
	"fmt"
	"math"
	"testing"

	"foundry/api"
	"foundry/floats"
	"foundry/names"
	"foundry/types"
)

// F8.1

func TestNameOfEachType(t *testing.T) {
	is(t, "Name of TInt", types.Name(api.TInt), "int")
	is(t, "Name of TFloat", types.Name(api.TFloat), "float")
	is(t, "Name of TBool", types.Name(api.TBool), "bool")
}

func TestNameOfNoTypeIsNothing(t *testing.T) {
	for _, typ := range noTypes() {
		is(t, fmt.Sprint("Name of ", typ), types.Name(typ), "")
	}
	for typ := -1000; typ <= 1000; typ++ {
		is(t, fmt.Sprint("Name of ", typ), types.Name(typ), modelName(typ))
	}
}

func isFind(t *testing.T, name string, want int, there bool) {
	t.Helper()
	if typ, ok := types.Find(name); typ != want || ok != there {
		t.Errorf("Find of %q: %d, %t, not %d, %t", name, typ, ok, want, there)
	}
}

func TestFindOfEachName(t *testing.T) {
	isFind(t, "int", api.TInt, true)
	isFind(t, "float", api.TFloat, true)
	isFind(t, "bool", api.TBool, true)
	for _, typ := range valueTypes() {
		isFind(t, types.Name(typ), typ, true)
	}
}

func TestFindOfOtherTexts(t *testing.T) {
	for _, s := range []string{"", " ", "none", "Int", "INT", "Float", "Bool", "int ", " int", "in", "nt", "intint", "int64", "flo", "floats", "boo", "boolean", "int\x00", "\x00", "\xff", "1", "0", "int, bool", "string", long(5000)} {
		isFind(t, s, 0, false)
	}
	for _, w := range names.Words() {
		if w != "int" && w != "float" && w != "bool" {
			isFind(t, w, 0, false)
		}
	}
}

func isRight(t *testing.T, typ int, bits uint64, want bool) {
	t.Helper()
	is(t, fmt.Sprintf("Right of %d, %#x", typ, bits), types.Right(value(typ, bits)), want)
}

func TestRightOfInts(t *testing.T) {
	for _, bits := range append(edges(), otherNaNs()...) {
		isRight(t, api.TInt, bits, true)
	}
}

func TestRightOfFloats(t *testing.T) {
	for _, bits := range []uint64{0, signBit, 1, 2, signBit | 1, 1<<52 - 1, 1 << 52, 0x3ff8000000000000, infinity - 1, infinity, signBit | infinity, signBit | (infinity - 1), floats.NaN} {
		isRight(t, api.TFloat, bits, true)
	}
	for _, bits := range otherNaNs() {
		isRight(t, api.TFloat, bits, false)
	}
}

func TestRightOfBools(t *testing.T) {
	isRight(t, api.TBool, 0, true)
	isRight(t, api.TBool, 1, true)
	for _, bits := range []uint64{2, 3, 255, 256, 257, 1 << 32, 1<<32 + 1, 1<<63 - 1, 1 << 63, 1<<63 + 1, math.MaxUint64} {
		isRight(t, api.TBool, bits, false)
	}
}

func TestRightOfNoTypes(t *testing.T) {
	for _, typ := range noTypes() {
		for _, bits := range edges() {
			isRight(t, typ, bits, false)
		}
	}
}

// values: each type, also such as are none, with each of the edges.
func values() []api.Value {
	var l []api.Value
	for _, typ := range allTypes() {
		for _, bits := range edges() {
			l = append(l, value(typ, bits))
		}
	}
	return l
}

func TestSameAsksForTypeAndBits(t *testing.T) {
	for i, a := range values() {
		for j, b := range values() {
			is(t, fmt.Sprint("Same of ", a, b), types.Same(a, b), i == j)
		}
	}
}

func TestSameGoesByBitsNotByNumbers(t *testing.T) {
	for _, nan := range otherNaNs() {
		is(t, "Same of two NaNs", types.Same(value(api.TFloat, nan), value(api.TFloat, floats.NaN)), false)
		is(t, "Same of a NaN and itself", types.Same(value(api.TFloat, nan), value(api.TFloat, nan)), true)
	}
	is(t, "Same of NaN and itself", types.Same(value(api.TFloat, floats.NaN), value(api.TFloat, floats.NaN)), true)
	is(t, "Same of the zeros", types.Same(value(api.TFloat, 0), value(api.TFloat, signBit)), false)
	is(t, "Same of truths that are none", types.Same(value(api.TBool, 1), value(api.TBool, 2)), false)
}

func TestShow(t *testing.T) {
	for _, x := range []struct {
		typ  int
		bits uint64
		want string
	}{
		{api.TInt, 0, "0"},
		{api.TInt, 1, "1"},
		{api.TInt, 1<<63 - 1, "9223372036854775807"},
		{api.TInt, 1 << 63, "-9223372036854775808"},
		{api.TInt, math.MaxUint64, "-1"},
		{api.TFloat, 0, "0x0p+0"},
		{api.TFloat, signBit, "-0x0p+0"},
		{api.TFloat, 1, "0x1p-1074"},
		{api.TFloat, 0x3ff8000000000000, "0x1.8p+0"},
		{api.TFloat, infinity, "inf"},
		{api.TFloat, signBit | infinity, "-inf"},
		{api.TFloat, floats.NaN, "nan"},
		{api.TBool, 0, "false"},
		{api.TBool, 1, "true"},
	} {
		is(t, fmt.Sprintf("Show of %d, %#x", x.typ, x.bits), types.Show(value(x.typ, x.bits)), x.want)
	}
}

func TestShowOfValuesThatAreNotRight(t *testing.T) {
	for _, nan := range otherNaNs() {
		is(t, "Show of a NaN", types.Show(value(api.TFloat, nan)), "nan")
	}
	for _, bits := range []uint64{2, 256, 1 << 32, 1 << 63, math.MaxUint64} {
		is(t, "Show of a truth that is none", types.Show(value(api.TBool, bits)), "true")
	}
	for _, typ := range noTypes() {
		for _, bits := range edges() {
			is(t, "Show of no type", types.Show(value(typ, bits)), "")
		}
	}
}

func TestRightAndShowAreTheModels(t *testing.T) {
	x := mixer(81)
	l := values()
	for range 20000 {
		l = append(l, value(pick(&x, allTypes()), x.next()>>x.below(64)<<x.below(64)))
	}
	for _, v := range l {
		isRight(t, v.Type, v.Bits, modelRight(v))
		is(t, fmt.Sprint("Show of ", v), types.Show(v), modelShow(v))
	}
}

func TestShownValuesThatAreRightPart(t *testing.T) {
	for _, typ := range valueTypes() {
		seen := map[string]uint64{}
		for _, bits := range edges() {
			v := value(typ, bits)
			if !types.Right(v) {
				continue
			}
			if other, there := seen[types.Show(v)]; there {
				t.Errorf("Show of %v and of %#x: %q", v, other, types.Show(v))
			}
			seen[types.Show(v)] = bits
		}
	}
}
