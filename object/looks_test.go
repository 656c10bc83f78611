package object_test

import (
	"fmt"
	"slices"
	"strings"
	"testing"

	"foundry/api"
	"foundry/code"
	"foundry/object"
)

// P1503: Same

func TestSameOfRightObjects(t *testing.T) {
	l := rightObjects()
	for n, a := range l {
		for m, b := range l {
			if object.Same(a, b) != (n == m) {
				t.Errorf("Same of %s and %s: %v", short(key(a)), short(key(b)), n != m)
			}
		}
		is(t, "Same of a copy", object.Same(a, roomy(a)), true)
	}
}

func TestSameOfWrongObjects(t *testing.T) {
	l := wrongObjects()
	for n, a := range l {
		for m, b := range l {
			if object.Same(a.o, b.o) != (n == m) {
				t.Errorf("Same of %s and %s: %v", a.what, b.what, n != m)
			}
		}
		is(t, "Same of a copy", object.Same(a.o, roomy(a.o)), true)
	}
	is(t, "Same of zero objects", object.Same(object.Object{}, object.Object{}), true)
}

// Two that differ in one part alone.
func TestSameOfEachPart(t *testing.T) {
	base := func() object.Object {
		o := faultless()
		o.Fns[1].Fn.Sig = code.Sig{Params: []int{1, 2}, Result: 3}
		o.Fns[1].Fn.Locals = []int{1, 2, 3}
		return roomy(o)
	}
	turns := map[string]func(o *object.Object){
		"Module":           func(o *object.Object) { o.Module = "n" },
		"a Var's Name":     func(o *object.Object) { o.Vars[2].Name = "y" },
		"a Value's Type":   func(o *object.Object) { o.Vars[0].Value.Type = 3 },
		"a Value's Bits":   func(o *object.Object) { o.Vars[1].Value.Bits++ },
		"a Var less":       func(o *object.Object) { o.Vars = o.Vars[:2] },
		"a Var more":       func(o *object.Object) { o.Vars = append(o.Vars, o.Vars[0]) },
		"Vars' order":      func(o *object.Object) { slices.Reverse(o.Vars) },
		"a Fn's Name":      func(o *object.Object) { o.Fns[0].Name = "F" },
		"a Param":          func(o *object.Object) { o.Fns[1].Fn.Sig.Params[1] = 1 },
		"a Param less":     func(o *object.Object) { o.Fns[1].Fn.Sig.Params = []int{1} },
		"a Param more":     func(o *object.Object) { o.Fns[1].Fn.Sig.Params = []int{1, 2, 3} },
		"Params' order":    func(o *object.Object) { o.Fns[1].Fn.Sig.Params = []int{2, 1} },
		"a Result":         func(o *object.Object) { o.Fns[1].Fn.Sig.Result = 0 },
		"a Local":          func(o *object.Object) { o.Fns[1].Fn.Locals[0] = 3 },
		"a Local less":     func(o *object.Object) { o.Fns[1].Fn.Locals = o.Fns[1].Fn.Locals[:2] },
		"a Local more":     func(o *object.Object) { o.Fns[2].Fn.Locals = []int{1} },
		"an Op":            func(o *object.Object) { o.Fns[0].Fn.Code[3].Op = 12 },
		"an N":             func(o *object.Object) { o.Fns[1].Fn.Code[0].N = 1 },
		"a V":              func(o *object.Object) { o.Fns[1].Fn.Code[0].V.Bits = 1 },
		"a V's Type":       func(o *object.Object) { o.Fns[1].Fn.Code[0].V.Type = 1 },
		"an instruction":   func(o *object.Object) { o.Fns[2].Fn.Code = append(o.Fns[2].Fn.Code, code.Ins{Op: 11}) },
		"one less":         func(o *object.Object) { o.Fns[0].Fn.Code = o.Fns[0].Fn.Code[:3] },
		"a Fn less":        func(o *object.Object) { o.Fns = o.Fns[:2] },
		"a Fn more":        func(o *object.Object) { o.Fns = append(o.Fns, object.Fn{}) },
		"Fns' order":       func(o *object.Object) { slices.Reverse(o.Fns) },
		"a Reloc's Fn":     func(o *object.Object) { o.Relocs[4].Fn = 1 },
		"a Reloc's At":     func(o *object.Object) { o.Relocs[4].At = 1 },
		"a Reloc's Kind":   func(o *object.Object) { o.Relocs[4].Kind = 1 },
		"a Reloc's Mod":    func(o *object.Object) { o.Relocs[3].Mod = "m" },
		"a Reloc's Name":   func(o *object.Object) { o.Relocs[3].Name = "H" },
		"a Reloc less":     func(o *object.Object) { o.Relocs = o.Relocs[:4] },
		"a Reloc more":     func(o *object.Object) { o.Relocs = append(o.Relocs, o.Relocs[4]) },
		"Relocs' order":    func(o *object.Object) { o.Relocs[0], o.Relocs[1] = o.Relocs[1], o.Relocs[0] },
		"no Vars":          func(o *object.Object) { o.Vars = nil },
		"no Fns":           func(o *object.Object) { o.Fns = nil },
		"no Relocs":        func(o *object.Object) { o.Relocs = nil },
		"no Params":        func(o *object.Object) { o.Fns[1].Fn.Sig.Params = nil },
		"no Locals":        func(o *object.Object) { o.Fns[1].Fn.Locals = nil },
		"no Code":          func(o *object.Object) { o.Fns[1].Fn.Code = nil },
		"Params as Locals": func(o *object.Object) { f := &o.Fns[1].Fn; f.Sig.Params, f.Locals = f.Locals, f.Sig.Params },
	}
	is(t, "untouched", object.Same(base(), base()), true)
	for what, turn := range turns {
		a, b := base(), base()
		turn(&b)
		is(t, what, object.Same(a, b), false)
		is(t, what+", turned round", object.Same(b, a), false)
		turn(&a)
		is(t, what+" of both", object.Same(a, b), true)
	}
}

// A NaN is the same as itself, zeros of two signs are not.
func TestSameGoesByBits(t *testing.T) {
	for _, a := range append(rightValues(), wrongValues()...) {
		for _, b := range append(rightValues(), wrongValues()...) {
			is(t, fmt.Sprint(a, b), object.Same(obj("m", variable("v", a)), obj("m", variable("v", b))), a == b)
			is(t, fmt.Sprint(a, b, " in code"), object.Same(obj("m", coded("f", code.Ins{V: a})), obj("m", coded("f", code.Ins{V: b}))), a == b)
		}
	}
}

// A list without an element may be nil or empty.
func TestEmptyLists(t *testing.T) {
	bare := object.Object{Module: "m"}
	full := object.Object{Module: "m", Vars: []object.Var{}, Fns: []object.Fn{}, Relocs: []object.Reloc{}}
	bareFn := obj("m", typed("f", nil, 0, nil))
	fullFn := obj("m", typed("f", []int{}, 0, []int{}))
	fullFn.Fns[0].Fn.Code, fullFn.Vars, fullFn.Relocs = []code.Ins{}, []object.Var{}, []object.Reloc{}
	for _, l := range [][]object.Object{{bare, full}, {bareFn, fullFn}} {
		is(t, "Same", object.Same(l[0], l[1]) && object.Same(l[1], l[0]), true)
		is(t, "Pack", packed(l[0]), packed(l[1]))
		is(t, "Text", object.Text(l[0]), object.Text(l[1]))
		rightIs(t, "nil", l[0], api.OK)
		rightIs(t, "empty", l[1], api.OK)
		is(t, "Needs", len(object.Needs(l[0]))+len(object.Needs(l[1])), 0)
		is(t, "Defines", len(object.Defines(l[0])), len(object.Defines(l[1])))
	}
	is(t, "Defines of none", len(object.Defines(full)), 0)
}

// P1503: Defines and Needs

func TestDefines(t *testing.T) {
	for _, c := range []struct {
		o    object.Object
		want string
	}{
		{obj("m"), ""}, {obj("m", variable("v", num(1))), "v"}, {obj("m", function("f", "call @k.g")), "f"},
		{obj("m", variable("v", num(1)), function("f", "")), "f v"}, {obj("m", variable("f", num(1)), function("v", "")), "f v"},
		{obj("m", variable("b", num(1)), variable("a", num(1)), function("d", ""), function("c", "")), "a b c d"},
		{obj("m", variable("b", num(1)), variable("_", num(1)), variable("B", num(1)), function("ab", ""), function("a", ""), function("A", ""), function("a0", "")), "A B _ a a0 ab b"},
		{faultless(), "f g h v w x"},
	} {
		is(t, key(c.o), strings.Join(object.Defines(c.o), " "), c.want)
	}
	// Of an object that is not right too.
	is(t, "not right", strings.Join(object.Defines(obj("", variable("b", api.Value{}), function("9", ""), function("a.b", ""))), " "), "9 a.b b")
	is(t, "twice", strings.Join(object.Defines(obj("m", variable("b", num(1)), variable("a", num(1)), function("b", ""))), " "), "a b b")
	is(t, "many", len(object.Defines(obj("m", items(100, 100)...))), 200)
}

func TestNeeds(t *testing.T) {
	for _, c := range []struct{ text, want string }{
		{"", ""}, {"return", ""}, {"load @m.v; call @m.f; store @m.v", ""}, {"call @k.g", "k.g"}, {"call @k.g; call @k.g", "k.g"},
		{"call @k.g; call @m.f; call @k.f; call @k.g; call @a.z", "a.z k.f k.g"}, {"call @k.f; call @K.f; call @k0.f; call @k_.f", "K.f k.f k0.f k_.f"}, {"call @k.v; call @k.V; call @k.m", "k.V k.m k.v"},
		{"call @mm.f; call @M.f; call @v.v", "M.f mm.f v.v"},
	} {
		o := obj("m", variable("v", num(1)), function("f", c.text))
		is(t, c.text, object.Right(o), api.OK)
		is(t, c.text, strings.Join(object.Needs(o), " "), c.want)
		two := obj("m", variable("v", num(1)), function("f", c.text), function("g", c.text))
		is(t, c.text+", twice", strings.Join(object.Needs(two), " "), c.want)
	}
	// Of an object that is not right too.
	wrong := obj("m", reloc(9, 9, 1, "z", "v"), reloc(-1, 0, 9, "", "f"), reloc(0, 0, 2, "m", "nobody"), reloc(0, 0, 2, "z", "v"), reloc(0, 0, 0, "k", ""))
	is(t, "not right", strings.Join(object.Needs(wrong), " "), ".f k. z.v")
	wrong.Module = "z"
	is(t, "of another module", strings.Join(object.Needs(wrong), " "), ".f k. m.nobody")
	is(t, "the zero object", len(object.Needs(object.Object{})), 0)
}

func TestDefinesAndNeedsAreTheModels(t *testing.T) {
	x := mixer(1506)
	for range 10000 {
		o := x.object()
		if x.below(2) == 0 {
			o = x.near(o)
		}
		is(t, "Defines of "+key(o), strings.Join(object.Defines(o), " "), modelDefines(o))
		is(t, "Needs of "+key(o), strings.Join(object.Needs(o), " "), modelNeeds(o))
		is(t, "Text of "+key(o), object.Text(o), modelText(o))
		if t.Failed() {
			return
		}
	}
}

// P1503: Text

func TestText(t *testing.T) {
	for _, c := range []struct {
		o    object.Object
		want []string
	}{
		{obj("m"), []string{"object m"}},
		{obj("main", variable("v", num(-7))), []string{"object main", "var v -7"}},
		{obj("m", variable("b", truth(1)), variable("a", float(1.5))), []string{"object m", "var b true", "var a 0x1.8p+0"}},
		{obj("m", function("f", "")), []string{"object m", "fn f"}},
		{obj("m", function("g", "push 5; return"), function("f", "get 3; un 1; bin 5; jump 65535; drop")), []string{"object m", "fn g", "  push 5", "  return", "fn f", "  get 3", "  un neg", "  bin %", "  jump 65535", "  drop"}},
		{
			obj("m", variable("v", num(1)), function("f", "load @m.v; show; store @m.v; call @k.g; return"), function("h", ""), function("i", "return; call @m.f")),
			[]string{"object m", "var v 1", "fn f", "  load 0 @m.v", "  show", "  store 0 @m.v", "  call 0 @k.g", "  return", "fn h", "fn i", "  return", "  call 0 @m.f"},
		},
		{obj("m", typed("f", []int{1, 2}, 3, []int{1, 2, 3})), []string{"object m", "fn f"}},
		{obj("m", coded("f", code.Ins{Op: 1, V: float(0.5)}, code.Ins{Op: 1, V: truth(0)}, code.Ins{Op: 6, N: 4})), []string{"object m", "fn f", "  push 0x1p-1", "  push false", "  un float"}},
	} {
		is(t, key(c.o), object.Text(c.o), strings.Join(c.want, "\n")+"\n")
		is(t, "by the model", modelText(c.o), object.Text(c.o))
	}
	for _, o := range rightObjects() {
		is(t, "Text", object.Text(o), modelText(o))
		is(t, "lines end", strings.HasSuffix(object.Text(o), "\n") && !strings.HasSuffix(object.Text(o), "\n\n"), true)
	}
}

func TestTextOfWhatIsNotRight(t *testing.T) {
	for _, wrong := range wrongObjects() {
		is(t, wrong.what, object.Text(wrong.o), "")
	}
	is(t, "the zero object", object.Text(object.Object{}), "")
}

// An object that is right, but has too many bytes, has its text.
func TestTextOfAGreatObject(t *testing.T) {
	o := obj("m", coded("f", times(4096, code.Ins{Op: 10})...))
	for at := range 4096 {
		reloc(0, at, 2, "k", "g")(&o)
	}
	is(t, "Pack", packed(o), bytesTold(nil, api.ErrBig))
	is(t, "Text", object.Text(o), "object m\nfn f\n"+strings.Repeat("  call 0 @k.g\n", 4096))
}
