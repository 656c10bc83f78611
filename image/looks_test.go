package image_test

import (
	"fmt"
	"math"
	"strings"
	"testing"

	"foundry/api"
	"foundry/code"
	"foundry/image"
)

// P1704: Same

func sameIs(t *testing.T, what string, a, b image.Image, want bool) {
	t.Helper()
	is(t, what, image.Same(a, b), want)
	is(t, what+", the other way", image.Same(b, a), want)
	is(t, what+", the first with itself", image.Same(a, copied(a)), true)
	is(t, what+", the second with itself", image.Same(b, copied(b)), true)
}

func TestSameOfEachPart(t *testing.T) {
	for _, c := range []struct {
		what string
		turn func(i *image.Image)
	}{
		{"Main", func(i *image.Image) { i.Main = 0 }},
		{"Main below 0", func(i *image.Image) { i.Main = -1 }},
		{"a Var's Type", func(i *image.Image) { i.Vars[1].Type = 1 }},
		{"a Var's Bits", func(i *image.Image) { i.Vars[2].Bits = 0 }},
		{"a Var's sign", func(i *image.Image) { i.Vars[1].Bits |= 1 << 63 }},
		{"a Var more", func(i *image.Image) { i.Vars = append(i.Vars, num(1)) }},
		{"a Var less", func(i *image.Image) { i.Vars = i.Vars[:2] }},
		{"no Var", func(i *image.Image) { i.Vars = nil }},
		{"Vars in another order", func(i *image.Image) { i.Vars[0], i.Vars[1] = i.Vars[1], i.Vars[0] }},
		{"a Param", func(i *image.Image) { i.Fns[0].Sig.Params[0] = 2 }},
		{"a Param more", func(i *image.Image) { i.Fns[0].Sig.Params = []int{1, 1} }},
		{"a Param less", func(i *image.Image) { i.Fns[0].Sig.Params = nil }},
		{"a Result", func(i *image.Image) { i.Fns[2].Sig.Result = 1 }},
		{"a Local", func(i *image.Image) { i.Fns[0].Locals[1] = 3 }},
		{"a Local more", func(i *image.Image) { i.Fns[3].Locals = []int{1} }},
		{"a Local less", func(i *image.Image) { i.Fns[0].Locals = []int{1} }},
		{"an Op", func(i *image.Image) { i.Fns[3].Code[1].Op = 12 }},
		{"an N", func(i *image.Image) { i.Fns[1].Code[1].N = 1 }},
		{"a V's Bits", func(i *image.Image) { i.Fns[1].Code[0].V.Bits = 2 }},
		{"a V's Type", func(i *image.Image) { i.Fns[2].Code[0].V.Type = 1 }},
		{"an instruction more", func(i *image.Image) { i.Fns[3].Code = append(i.Fns[3].Code, code.Ins{Op: 11}) }},
		{"an instruction less", func(i *image.Image) { i.Fns[3].Code = i.Fns[3].Code[:1] }},
		{"no instruction", func(i *image.Image) { i.Fns[3].Code = nil }},
		{"a Fn more", func(i *image.Image) { i.Fns = append(i.Fns, five()) }},
		{"a Fn less", func(i *image.Image) { i.Fns = i.Fns[:3] }},
		{"no Fn", func(i *image.Image) { i.Fns = nil }},
		{"Fns in another order", func(i *image.Image) { i.Fns[2], i.Fns[3] = i.Fns[3], i.Fns[2] }},
	} {
		i, other := faultless(), faultless()
		sameIs(t, "ahead of "+c.what, i, other, true)
		c.turn(&other)
		sameIs(t, c.what, i, other, false)
		sameIs(t, c.what+" and the zero image", other, image.Image{}, false)
	}
}

func TestSameOfMany(t *testing.T) {
	l := rightImages()
	for _, wrong := range wrongImages() {
		l = append(l, wrong.i)
	}
	for seed := range uint64(60) {
		l = append(l, made(seed))
	}
	keys := make([]string, len(l))
	for at, i := range l {
		keys[at] = key(i)
	}
	for a := range l {
		for b := range l {
			if got, want := image.Same(l[a], l[b]), keys[a] == keys[b]; got != want {
				t.Errorf("%v of %s and %s", got, short(keys[a]), short(keys[b]))
			}
		}
	}
}

// Lists without an element are alike; what stands in spare room does not matter; images that are not right are compared as well.
func TestSameOfStrangeImages(t *testing.T) {
	empty := image.Image{Vars: []api.Value{}, Fns: []code.Fn{}}
	sameIs(t, "empty lists", image.Image{}, empty, true)
	a := image.Image{Fns: []code.Fn{{}}, Main: math.MinInt}
	b := image.Image{Fns: []code.Fn{{Sig: code.Sig{Params: []int{}}, Locals: []int{}, Code: []code.Ins{}}}, Main: math.MinInt}
	sameIs(t, "empty lists within", a, b, true)
	b.Fns[0].Sig.Result = math.MinInt
	sameIs(t, "a strange result", a, b, false)
	sameIs(t, "spare room", faultless(), roomy(faultless()), true)
	sameIs(t, "types that are alike in a byte", withVars(faultless(), api.Value{Type: 1}), withVars(faultless(), api.Value{Type: 257}), false)
	sameIs(t, "Mains that are alike in 32 bits", from(1, faultless()), from(1+1<<32, faultless()), false)
	nan := api.Value{Type: api.TFloat, Bits: math.Float64bits(math.NaN())}
	sameIs(t, "NaN", withVars(faultless(), nan), withVars(faultless(), nan), true)
	sameIs(t, "the noughts", withVars(faultless(), float(0)), withVars(faultless(), float(math.Copysign(0, -1))), false)
}

// P1704: Text

func TestText(t *testing.T) {
	for _, c := range []struct {
		i    image.Image
		want string
	}{
		{img(five()), "image 0 1 0\nfn 0\n0 push 5\n1 return\n"},
		{withVars(from(1, img(fn("f", "", "get 0; drop; return"), fn(":i", "", "try 3; input; return; return"))), num(-7), float(1.5), truth(1), truth(0)),
			"image 4 2 1\nvar -7\nvar 0x1.8p+0\nvar true\nvar false\nfn 0\n0 get 0\n1 drop\n2 return\nfn 1\n0 try 3\n1 input\n2 return\n3 return\n"},
		{img(fn(":i", "b", "get 0; unless 4; push 1; return; call 0; un 1; push -3; bin 5; return")), "image 0 1 0\nfn 0\n0 get 0\n1 unless 4\n2 push 1\n3 return\n4 call 0\n5 un neg\n6 push -3\n7 bin %\n8 return\n"},
	} {
		if c.i.Main == 1 {
			c.i.Fns[1].Code[3] = code.Ins{Op: 11}
		}
		is(t, key(c.i), image.Text(c.i), c.want)
	}
	for _, i := range rightImages() {
		isText(t, key(i), image.Text(i), modelText(i))
	}
}

func TestTextOfManyParts(t *testing.T) {
	for _, n := range []int{9, 10, 11, 99, 100, 101, 999, 1000, 2048} {
		i := withVars(from(n-1, img(times(n, five())...)), times(n, truth(1))...)
		text := image.Text(i)
		isText(t, "the first line", text[:strings.Index(text, "\n")], fmt.Sprintf("image %d %d %d", n, n, n-1))
		is(t, "the last function", strings.HasSuffix(text, fmt.Sprintf("\nfn %d\n0 push 5\n1 return\n", n-1)), true)
		isText(t, "all of it", text, modelText(i))
	}
}

func TestTextOfWhatIsNotRight(t *testing.T) {
	for _, wrong := range wrongImages() {
		is(t, wrong.what, image.Text(wrong.i), "")
	}
}

func TestTextIsTheModels(t *testing.T) {
	m := mixer(1704)
	right := 0
	for seed := range uint64(6000) {
		i := made(seed)
		if seed%2 == 0 {
			i = m.near(i)
		}
		want := modelText(i)
		isText(t, key(i), image.Text(i), want)
		if want != "" {
			right++
		}
	}
	if right < 3000 || right > 5500 {
		t.Errorf("%d of them right", right)
	}
}
