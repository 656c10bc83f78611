package object_test

import (
	"fmt"
	"math"
	"slices"
	"testing"

	"foundry/api"
	"foundry/code"
	"foundry/object"
)

// rightIs fails unless Right answers so, the model too, and Pack with it.
func rightIs(t *testing.T, what string, o object.Object, want api.Errno) {
	t.Helper()
	if got := object.Right(o); got != want {
		t.Errorf("%s: Right: %v, not %v, of %s", what, got, want, short(key(o)))
	}
	if got := modelRight(o); got != want {
		t.Errorf("%s: the model: %v, not %v, of %s", what, got, want, short(key(o)))
	}
	if got, want := packed(o), modelPacked(o); got != want {
		t.Errorf("%s: Pack: %s, not %s, of %s", what, short(got), short(want), short(key(o)))
	}
}

func TestExampleOfRight(t *testing.T) {
	o := obj("m", coded("f", code.Ins{Op: 4}, code.Ins{Op: 11}))
	rightIs(t, "without a Reloc", o, api.ErrObject)
	reloc(0, 0, object.ToVar, "m", "v")(&o)
	rightIs(t, "without v", o, api.ErrObject)
	variable("v", num(1))(&o)
	rightIs(t, "with v", o, api.OK)
}

func TestConstants(t *testing.T) {
	is(t, "ToVar", object.ToVar, 1)
	is(t, "ToFn", object.ToFn, 2)
}

// P1501

func TestRightOfRightObjects(t *testing.T) {
	for _, o := range rightObjects() {
		rightIs(t, "right", o, api.OK)
	}
}

func TestRightOfWrongObjects(t *testing.T) {
	for _, wrong := range wrongObjects() {
		rightIs(t, wrong.what, wrong.o, wrong.code)
	}
	rightIs(t, "the zero object", object.Object{}, api.ErrName)
}

// fault: something that is wrong. Faults of a lower rank are told first.
type fault struct {
	rank int
	what string
	code api.Errno
	turn func(o *object.Object)
}

// faultless: what faults are put into.
func faultless() object.Object {
	return obj("m", variable("v", num(1)), variable("w", float(1.5)), variable("x", truth(1)),
		function("f", "load @m.v; call @m.g; store @m.w; return"), function("g", "get 0; call @k.h; return"), function("h", "call @m.f"))
}

// nameFaults: of one name, that of rank below may be there already.
func nameFaults(rank int, name func(o *object.Object) *string, twice ...string) []fault {
	l := []fault{}
	add := func(text string, e api.Errno) {
		l = append(l, fault{rank, fmt.Sprintf("%q", text), e, func(o *object.Object) { *name(o) = text }})
	}
	for _, text := range []string{"", "9a", "while", "a.b"} {
		add(text, api.ErrName)
	}
	add(long(33), api.ErrBig)
	for _, text := range twice {
		add(text, api.ErrTwice)
	}
	return l
}

func valueFaults(rank, at int) []fault {
	var l []fault
	for _, v := range []api.Value{{}, {Type: 4}, truth(2)} {
		l = append(l, fault{rank, fmt.Sprint("value ", v), api.ErrObject, func(o *object.Object) { o.Vars[at].Value = v }})
	}
	return l
}

func fnFaults(rank, at int) []fault {
	var l []fault
	add := func(what string, turn func(f *code.Fn)) {
		l = append(l, fault{rank, what, api.ErrObject, func(o *object.Object) { turn(&o.Fns[at].Fn) }})
	}
	add("parameters", func(f *code.Fn) { f.Sig.Params = times(9, api.TInt) })
	add("a parameter", func(f *code.Fn) { f.Sig.Params = []int{api.TNone} })
	add("a result", func(f *code.Fn) { f.Sig.Result = 4 })
	add("locals", func(f *code.Fn) { f.Locals = times(65, api.TBool) })
	add("a local", func(f *code.Fn) { f.Locals = []int{1, 2, 3, 0} })
	add("instructions", func(f *code.Fn) { f.Code = append(f.Code, times(4096, code.Ins{Op: 11})...) })
	add("an instruction", func(f *code.Fn) { f.Code = append(f.Code, code.Ins{Op: 18}) })
	return l
}

func placeFaults(rank int) []fault {
	var l []fault
	add := func(what string, turn func(o *object.Object)) {
		l = append(l, fault{rank, what, api.ErrObject, turn})
	}
	add("a number", func(o *object.Object) { o.Fns[2].Fn.Code[0].N = 1 })
	add("a Reloc too few", func(o *object.Object) { o.Relocs = o.Relocs[:4] })
	add("a Reloc too many", func(o *object.Object) { o.Relocs = append(o.Relocs, o.Relocs[4]) })
	add("out of order", func(o *object.Object) { o.Relocs[3], o.Relocs[4] = o.Relocs[4], o.Relocs[3] })
	add("another Kind", func(o *object.Object) { o.Relocs[4].Kind = 1 })
	add("another function", func(o *object.Object) { o.Relocs[4].Fn = 0 })
	add("another place", func(o *object.Object) { o.Relocs[4].At = 1 })
	return l
}

func ownFaults(rank int) []fault {
	var l []fault
	add := func(what string, turn func(o *object.Object)) {
		l = append(l, fault{rank, what, api.ErrObject, turn})
	}
	add("no function", func(o *object.Object) { o.Relocs[1].Name = "nobody" })
	add("a variable as a function", func(o *object.Object) { o.Relocs[1].Name = "v" })
	add("no variable", func(o *object.Object) { o.Relocs[2].Name = "nobody" })
	add("a function as a variable", func(o *object.Object) { o.Relocs[2].Name = "f" })
	add("another module's variable", func(o *object.Object) { o.Relocs[2].Mod = "k" })
	add("the last one", func(o *object.Object) { o.Relocs[4].Name = "x" })
	return l
}

// allFaults: in the order of the chapter.
func allFaults() []fault {
	tooMany := func(o *object.Object) {
		o.Vars = append(o.Vars, obj("m", items(59, 0)...).Vars...)
	}
	return slices.Concat(
		nameFaults(0, func(o *object.Object) *string { return &o.Module }),
		[]fault{{1, "too many", api.ErrBig, tooMany}},
		nameFaults(2, func(o *object.Object) *string { return &o.Vars[0].Name }), valueFaults(3, 0),
		nameFaults(4, func(o *object.Object) *string { return &o.Vars[1].Name }, "v"), valueFaults(5, 1),
		nameFaults(6, func(o *object.Object) *string { return &o.Vars[2].Name }, "v", "w"), valueFaults(7, 2),
		nameFaults(8, func(o *object.Object) *string { return &o.Fns[0].Name }, "v", "w", "x"), fnFaults(9, 0),
		nameFaults(10, func(o *object.Object) *string { return &o.Fns[1].Name }, "v", "x", "f"), fnFaults(11, 1),
		nameFaults(12, func(o *object.Object) *string { return &o.Fns[2].Name }, "w", "f", "g"), fnFaults(13, 2),
		placeFaults(14),
		nameFaults(15, func(o *object.Object) *string { return &o.Relocs[0].Mod }), nameFaults(16, func(o *object.Object) *string { return &o.Relocs[0].Name }),
		nameFaults(17, func(o *object.Object) *string { return &o.Relocs[3].Mod }), nameFaults(18, func(o *object.Object) *string { return &o.Relocs[3].Name }),
		ownFaults(19),
	)
}

func TestEachFaultAlone(t *testing.T) {
	rightIs(t, "no fault", faultless(), api.OK)
	for _, f := range allFaults() {
		o := faultless()
		f.turn(&o)
		what := fmt.Sprint(f.rank, " ", f.what)
		rightIs(t, what, o, f.code)
		is(t, what+": Text", object.Text(o), "")
	}
}

func TestEachFaultBesideALaterOne(t *testing.T) {
	all := allFaults()
	for _, first := range all {
		for _, later := range all {
			if later.rank <= first.rank {
				continue
			}
			o := faultless()
			later.turn(&o)
			first.turn(&o)
			if got := object.Right(o); got != first.code {
				t.Errorf("%d %s and %d %s: %v, not %v", first.rank, first.what, later.rank, later.what, got, first.code)
			}
		}
	}
}

func TestManyFaultsAtOnce(t *testing.T) {
	x := mixer(1501)
	all := allFaults()
	for range 20000 {
		o := faultless()
		var some []fault
		for range 2 + x.below(4) {
			f := pick(&x, all)
			if !slices.ContainsFunc(some, func(other fault) bool { return other.rank == f.rank }) {
				some = append(some, f)
			}
		}
		slices.SortFunc(some, func(a, b fault) int { return b.rank - a.rank })
		for _, f := range some {
			f.turn(&o)
		}
		if got, want := object.Right(o), modelRight(o); got != want {
			t.Fatalf("%v, not %v, of %s", got, want, short(key(o)))
		}
	}
}

// Names.

func TestRightNames(t *testing.T) {
	for _, c := range []struct {
		name string
		code api.Errno
	}{
		{"a", api.OK}, {"Z", api.OK}, {"_", api.OK}, {"a9", api.OK}, {"main", api.OK}, {"While", api.OK}, {long(31), api.OK}, {long(32), api.OK},
		{long(33), api.ErrBig}, {long(1000), api.ErrBig}, {long(32) + "9", api.ErrBig},
		{"", api.ErrName}, {"9", api.ErrName}, {"9a", api.ErrName}, {"while", api.ErrName}, {"var", api.ErrName}, {"a b", api.ErrName}, {"a.b", api.ErrName}, {"a-", api.ErrName}, {"\xff", api.ErrName}, {"a\x00", api.ErrName}, {long(33) + ".", api.ErrName},
	} {
		what := fmt.Sprintf("%q", c.name)
		rightIs(t, what+" as Module", obj(c.name), c.code)
		rightIs(t, what+" as a variable", obj("m", variable(c.name, num(1))), c.code)
		rightIs(t, what+" as a function", obj("m", typed(c.name, nil, 0, nil)), c.code)
		rightIs(t, what+" as Mod", obj("m0", coded("f", code.Ins{Op: 10}), reloc(0, 0, 2, c.name, "f")), c.code)
		rightIs(t, what+" as Name", obj("m0", coded("f", code.Ins{Op: 10}), reloc(0, 0, 2, "k", c.name)), c.code)
	}
}

func TestRightOfNamesTwice(t *testing.T) {
	v := func(name string) part { return variable(name, num(1)) }
	f := func(name string) part { return typed(name, nil, 0, nil) }
	rightIs(t, "all unlike", obj("a", v("b"), v("B"), v("c"), f("C"), f("d"), f("bb")), api.OK)
	rightIs(t, "the module's name", obj("a", v("a"), f("b")), api.OK)
	for _, parts := range [][]part{
		{v("b"), v("b")}, {v("b"), v("c"), v("b")}, {f("b"), f("b")}, {f("b"), f("c"), f("b")}, {v("b"), f("b")}, {v("b"), v("c"), f("d"), f("b")}, {v("b"), v("c"), f("c"), f("b")},
		{f("a"), v("a")}, {v("b"), v("b"), variable("c", api.Value{})}, {v("b"), variable("b", api.Value{})}, {f("b"), typed("b", nil, 4, nil)},
	} {
		rightIs(t, "twice", obj("m", parts...), api.ErrTwice)
	}
	rightIs(t, "a wrong one ahead", obj("m", variable("b", api.Value{}), v("b")), api.ErrObject)
	rightIs(t, "a wrong function ahead", obj("m", typed("b", nil, 4, nil), f("b")), api.ErrObject)
	rightIs(t, "no names, twice", obj("m", v("9"), v("9")), api.ErrName)
	rightIs(t, "an unlike one that is wrong ahead of one that is twice", obj("m", v("b"), f("9"), f("b")), api.ErrName)
}

// Limits.

func TestRightAtMaxItems(t *testing.T) {
	is(t, "MaxItems", api.MaxItems, 64)
	for _, c := range [][2]int{{0, 0}, {1, 0}, {63, 0}, {64, 0}, {0, 64}, {63, 1}, {1, 63}, {32, 32}, {0, 63}} {
		rightIs(t, fmt.Sprint(c), obj("m", items(c[0], c[1])...), api.OK)
	}
	for _, c := range [][2]int{{65, 0}, {0, 65}, {64, 1}, {1, 64}, {33, 32}, {32, 33}, {64, 64}, {1000, 0}, {0, 1000}} {
		rightIs(t, fmt.Sprint(c), obj("m", items(c[0], c[1])...), api.ErrBig)
		wrong := obj("m", append(items(c[0], c[1]), variable("9", api.Value{}), typed("9", nil, 4, nil), reloc(9, 9, 9, "", ""))...)
		rightIs(t, fmt.Sprint(c, " and what is wrong"), wrong, api.ErrBig)
	}
}

func TestRightAtTheLimitsOfFunctions(t *testing.T) {
	for _, c := range []struct {
		params, locals, code int
		want                 api.Errno
	}{
		{0, 0, 0, api.OK}, {1, 1, 1, api.OK}, {7, 7, 1, api.OK}, {8, 8, 1, api.OK}, {8, 0, 0, api.OK}, {0, 63, 0, api.OK}, {0, 64, 0, api.OK}, {8, 64, 4096, api.OK}, {0, 0, 4095, api.OK}, {0, 0, 4096, api.OK},
		{9, 9, 1, api.ErrObject}, {9, 0, 0, api.ErrObject}, {16, 0, 0, api.ErrObject}, {256, 0, 0, api.ErrObject}, {264, 0, 0, api.ErrObject},
		{0, 65, 0, api.ErrObject}, {8, 65, 1, api.ErrObject}, {0, 256, 0, api.ErrObject}, {0, 320, 0, api.ErrObject},
		{0, 0, 4097, api.ErrObject}, {0, 0, 8192, api.ErrObject}, {0, 0, 65536, api.ErrObject},
	} {
		o := obj("m", typed("f", times(c.params, api.TFloat), api.TInt, times(c.locals, api.TBool)))
		o.Fns[0].Fn.Code = times(c.code, code.Ins{Op: 12})
		rightIs(t, fmt.Sprint(c), o, c.want)
		rightIs(t, fmt.Sprint(c, " as the last one"), obj("m", append(items(3, 3), func(p *object.Object) { p.Fns = append(p.Fns, object.Fn{Name: "last", Fn: o.Fns[0].Fn}) })...), c.want)
	}
}

// Values and types.

func TestRightOfValues(t *testing.T) {
	for _, v := range rightValues() {
		rightIs(t, fmt.Sprint(v), obj("m", variable("v", v)), api.OK)
		rightIs(t, fmt.Sprint("behind others ", v), obj("m", append(items(5, 0), variable("v", v))...), api.OK)
	}
	for _, v := range wrongValues() {
		rightIs(t, fmt.Sprint(v), obj("m", variable("v", v)), api.ErrObject)
		rightIs(t, fmt.Sprint("behind others ", v), obj("m", append(items(5, 0), variable("v", v))...), api.ErrObject)
	}
}

func TestRightOfTypes(t *testing.T) {
	is(t, "no type", api.TNone, 0)
	for _, result := range []int{0, 1, 2, 3} {
		rightIs(t, fmt.Sprint("the result ", result), obj("m", typed("f", nil, result, nil)), api.OK)
	}
	for _, of := range strangeTypes() {
		rightIs(t, fmt.Sprint("the result ", of), obj("m", typed("f", nil, of, nil)), api.ErrObject)
	}
	for _, of := range append(strangeTypes(), api.TNone) {
		for n := range 8 {
			l := []int{1, 2, 3, 1, 2, 3, 1, 2}
			rightIs(t, "a parameter", obj("m", typed("f", l[:n+1], 0, nil)), api.OK)
			rightIs(t, "a local", obj("m", typed("f", nil, 0, l[:n+1])), api.OK)
			l[n] = of
			rightIs(t, fmt.Sprint("the parameter ", of), obj("m", typed("f", l, 0, nil)), api.ErrObject)
			rightIs(t, fmt.Sprint("the local ", of), obj("m", typed("f", nil, 0, l)), api.ErrObject)
		}
		rightIs(t, fmt.Sprint("the last local ", of), obj("m", typed("f", nil, 0, append(times(63, 1), of))), api.ErrObject)
	}
}

func TestRightOfInstructions(t *testing.T) {
	for op := 1; op <= 17; op++ {
		for _, n := range []int{0, 1, 4, 5, 11, 12, 255, 256, 65535, 65536, -1, math.MinInt, math.MaxInt} {
			for _, v := range []api.Value{{}, num(1), truth(2)} {
				i := code.Ins{Op: op, N: n, V: v}
				want := api.ErrObject
				if code.Right(i) && kindOf(op) == 0 {
					want = api.OK
				}
				rightIs(t, fmt.Sprint(i), obj("m", coded("f", i)), want)
			}
		}
	}
	for _, i := range wrongIns() {
		for _, l := range [][]code.Ins{{i}, {{Op: 11}, i}, {i, {Op: 11}}, append(times(4095, code.Ins{Op: 17}), i)} {
			rightIs(t, fmt.Sprint(i), obj("m", coded("f", l...)), api.ErrObject)
		}
	}
}

// Whether code goes right, and whether Locals begin with Params, is not asked here.
func TestRightOfCodeThatGoesWrong(t *testing.T) {
	for _, text := range []string{"", "drop", "jump 9", "push 1", "untry; untry", "get 77; put 78", "bin 1; un 2", "unless 0", "return; show", "try 65535", "fail"} {
		rightIs(t, text, obj("m", function("f", text)), api.OK)
	}
	rightIs(t, "other locals than parameters", obj("m", typed("f", []int{1, 2}, 3, []int{2})), api.OK)
	rightIs(t, "no local", obj("m", typed("f", []int{1, 2}, 3, nil)), api.OK)
	rightIs(t, "a call with nothing on the stack", obj("m", variable("v", truth(1)), function("f", "call @m.g; store @m.v; call @k.nobody"), typed("g", []int{1, 2}, 3, nil)), api.OK)
}

// Open places and Relocs.

func TestRightOfNumbersAtOpenPlaces(t *testing.T) {
	for _, op := range []int{4, 5, 10} {
		name := []string{1: "v", 2: "f"}[kindOf(op)]
		for _, n := range []int{0, 1, 2, 255, 256, 65535} {
			want := api.ErrObject
			if n == 0 {
				want = api.OK
			}
			i := code.Ins{Op: op, N: n}
			rightIs(t, fmt.Sprint(i), obj("m", variable("v", num(1)), coded("f", i), reloc(0, 0, kindOf(op), "m", name)), want)
			rightIs(t, fmt.Sprint(i, " as the second one"), obj("m", variable("v", num(1)), coded("f", code.Ins{Op: 10}, i), reloc(0, 0, 2, "k", "f"), reloc(0, 1, kindOf(op), "m", name)), want)
		}
	}
}

// All lists of few Relocs, right ones and wrong ones, of an object with three open places.
func TestRightOfAllListsOfRelocs(t *testing.T) {
	base := obj("m", variable("v", num(1)), coded("f", code.Ins{Op: 4}, code.Ins{Op: 11}, code.Ins{Op: 10}), coded("e"), coded("g", code.Ins{Op: 8}, code.Ins{Op: 5}))
	words := []object.Reloc{
		{Fn: 0, At: 0, Kind: 1, Mod: "m", Name: "v"}, {Fn: 0, At: 2, Kind: 2, Mod: "k", Name: "f"}, {Fn: 2, At: 1, Kind: 1, Mod: "m", Name: "v"},
		{Fn: 0, At: 0, Kind: 2, Mod: "m", Name: "f"}, {Fn: 0, At: 2, Kind: 1, Mod: "m", Name: "v"}, {Fn: 0, At: 1, Kind: 2, Mod: "m", Name: "f"}, {Fn: 0, At: 2, Kind: 2, Mod: "m", Name: "g"},
		{Fn: 1, At: 0, Kind: 2, Mod: "m", Name: "f"}, {Fn: 2, At: 1, Kind: 1, Mod: "m", Name: "g"}, {Fn: 2, At: 2, Kind: 1, Mod: "m", Name: "v"}, {Fn: 3, At: 0, Kind: 2, Mod: "m", Name: "f"},
	}
	right := 0
	var all func(l []object.Reloc, n int)
	all = func(l []object.Reloc, n int) {
		o := base
		o.Relocs = l
		want := modelRight(o)
		if got := object.Right(o); got != want {
			t.Fatalf("%v, not %v, of %+v", got, want, l)
		}
		if want == api.OK {
			right++
		}
		for _, r := range words {
			if n > 0 {
				all(append(slices.Clone(l), r), n-1)
			}
		}
	}
	all(nil, 4)
	is(t, "right ones", right, 2)
}

func TestRightOfStrangeRelocs(t *testing.T) {
	for _, n := range []int{-1, 1, 2, 3, 256, 65536, 1 << 32, math.MinInt, math.MaxInt} {
		of := func(fn, at, kind int) object.Object {
			return obj("m", coded("f", code.Ins{Op: 10}), reloc(fn, at, kind, "m", "f"))
		}
		rightIs(t, fmt.Sprint("Fn ", n), of(n, 0, 2), api.ErrObject)
		rightIs(t, fmt.Sprint("At ", n), of(0, n, 2), api.ErrObject)
		if n != 2 {
			rightIs(t, fmt.Sprint("Kind ", n), of(0, 0, n), api.ErrObject)
		}
		rightIs(t, fmt.Sprint("no open place, Fn ", n), obj("m", function("f", "return"), reloc(n, 0, 2, "m", "f")), api.ErrObject)
		rightIs(t, fmt.Sprint("no function, At ", n), obj("m", reloc(0, n, 2, "m", "f")), api.ErrObject)
		behind := obj("m", function("f", "call @m.f; call @m.f"), reloc(n, n, 2, "m", "f"))
		rightIs(t, fmt.Sprint("behind all open places ", n), behind, api.ErrObject)
		slices.Reverse(behind.Relocs)
		rightIs(t, fmt.Sprint("ahead of all open places ", n), behind, api.ErrObject)
	}
	rightIs(t, "Kind 0", obj("m", coded("f", code.Ins{Op: 10}), reloc(0, 0, 0, "m", "f")), api.ErrObject)
	rightIs(t, "many", obj("m", coded("f", times(4096, code.Ins{Op: 10})...), reloc(0, 0, 2, "m", "f")), api.ErrObject)
	rightIs(t, "a Reloc of each", obj("m", function("f", "call @m.f; call @m.f; return; call @m.f"), function("g", "call @m.f")), api.OK)
}

// What a Reloc names: the object's own variables and functions, and functions of others.
func TestRightOfWhatBelongs(t *testing.T) {
	for _, c := range []struct {
		text string
		want api.Errno
	}{
		{"load @m.v", api.OK}, {"store @m.v", api.OK}, {"load @m.f", api.ErrObject}, {"store @m.f", api.ErrObject}, {"load @m.z", api.ErrObject}, {"store @m.z", api.ErrObject}, {"load @m.m", api.ErrObject},
		{"call @m.f", api.OK}, {"call @m.g", api.OK}, {"call @m.v", api.ErrObject}, {"call @m.z", api.ErrObject}, {"call @m.m", api.ErrObject}, {"call @m.F", api.ErrObject},
		{"load @k.v", api.ErrObject}, {"store @k.v", api.ErrObject}, {"load @k.f", api.ErrObject}, {"load @k.z", api.ErrObject}, {"store @M.v", api.ErrObject},
		{"call @k.f", api.OK}, {"call @k.v", api.OK}, {"call @k.z", api.OK}, {"call @v.f", api.OK}, {"call @M.f", api.OK}, {"call @mm.f", api.OK},
	} {
		rightIs(t, c.text, obj("m", variable("v", num(1)), function("f", c.text), function("g", "")), c.want)
		rightIs(t, c.text+" behind others", obj("m", variable("v", num(1)), function("f", ""), function("g", "load @m.v; call @k.v; "+c.text)), c.want)
	}
	long := obj("m", variable("v", num(1)), function("f", "load @k.v; call @9.f"))
	rightIs(t, "a name that is wrong, behind another module's variable", long, api.ErrName)
}
