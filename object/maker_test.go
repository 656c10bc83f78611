package object_test

import (
	"math"
	"slices"

	"foundry/api"
	"foundry/code"
	"foundry/object"
)

// rightObjects: objects that are right, no two of them the same.
func rightObjects() []object.Object {
	l := []object.Object{
		obj("m"), obj("M"), obj("_"), obj("mm"), obj(long(32)),
		obj("m", variable("v", num(1))), obj("n", variable("v", num(1))), obj("m", variable("w", num(1))), obj("m", variable(long(32), num(1))),
		obj("m", variable("v", num(1)), variable("w", truth(1))), obj("m", variable("w", truth(1)), variable("v", num(1))),
		obj("m", variable("m", num(1))), obj("m", typed("m", nil, 0, nil)),
		obj("m", function("f", "")), obj("m", function("g", "")), obj("m", function("f", "return")), obj("m", function("f", "return; return")),
		obj("m", function("f", "push 1; drop; jump 65535")), obj("m", function("f", "get 255; put 0; un 4; bin 11; try 9")), obj("m", function("f", ""), function("g", "")), obj("m", function("g", ""), function("f", "")),
		obj("m", variable("f", num(0))),
		obj("m", variable("v", num(1)), function("f", "load @m.v; return")), obj("m", variable("v", num(1)), function("f", "store @m.v; return")),
		obj("m", function("f", "call @m.f")), obj("m", function("f", "call @k.f")), obj("m", function("f", "call @m.g"), function("g", "call @m.f")), obj("m", function("f", "call @m.f"), function("g", "call @m.g")),
		obj("m", function("f", "call @k.v")), obj("m", function("f", "call @"+long(32)+"."+long(32))), obj("m", variable("v", num(2)), function("f", "call @k.v; load @m.v")),
		obj("m", variable("v", float(1.5)), variable("w", truth(0)), function("f", "load @m.v; call @m.g; return; store @m.w; call @k.f; call @k.f"), function("g", "return"), function("h", "call @a.b; store @m.v")),
		obj("m", items(63, 0)...), obj("m", items(64, 0)...), obj("m", items(0, 64)...), obj("m", items(32, 32)...), obj(long(32), items(1, 63)...),
	}
	for _, v := range rightValues() {
		l = append(l, obj("m", variable("x", v)), obj("m", coded("x", code.Ins{Op: 1, V: v})))
	}
	some := []int{api.TInt, api.TFloat, api.TBool, api.TBool, api.TFloat, api.TInt, api.TInt, api.TBool}
	for n := range len(some) + 1 {
		l = append(l, obj("m", typed("p", some[:n], n%4, nil)), obj("m", typed("p", some[:n], n%4, some)))
	}
	for result := range 4 {
		l = append(l, obj("m", typed("t", nil, result, nil)))
	}
	for _, n := range []int{1, 7, 63, 64} {
		l = append(l, obj("m", typed("t", []int{2}, 3, times(n, 1+n%3))))
	}
	return l
}

// wrongObject: an object that is not right, and the error of it.
type wrongObject struct {
	what string
	o    object.Object
	code api.Errno
}

// wrongObjects: one of each kind of fault at least; more of each are in the tests of Right.
func wrongObjects() []wrongObject {
	open := func(parts ...part) object.Object {
		return obj("m", append([]part{variable("v", num(1)), coded("f", code.Ins{Op: 4}, code.Ins{Op: 10})}, parts...)...)
	}
	return []wrongObject{
		{"no name", obj(""), api.ErrName},
		{"a reserved word", obj("if"), api.ErrName},
		{"a long name", obj(long(33)), api.ErrBig},
		{"too many", obj("m", items(33, 32)...), api.ErrBig},
		{"a variable without a name", obj("m", variable("", num(1))), api.ErrName},
		{"a function with a long name", obj("m", function(long(33), "")), api.ErrBig},
		{"a name twice", obj("m", variable("x", num(1)), variable("x", num(2))), api.ErrTwice},
		{"a name of both kinds", obj("m", variable("x", num(1)), function("x", "")), api.ErrTwice},
		{"a value of no type", obj("m", variable("x", api.Value{})), api.ErrObject},
		{"a type that is a byte's one", obj("m", variable("x", api.Value{Type: 257})), api.ErrObject},
		{"a bool of 2", obj("m", variable("x", truth(2))), api.ErrObject},
		{"too many parameters", obj("m", typed("f", times(9, 1), 0, nil)), api.ErrObject},
		{"a parameter of no type", obj("m", typed("f", []int{1, 0}, 0, nil)), api.ErrObject},
		{"a result of no type", obj("m", typed("f", nil, 4, nil)), api.ErrObject},
		{"too many locals", obj("m", typed("f", nil, 0, times(65, 1))), api.ErrObject},
		{"a local of no type", obj("m", typed("f", nil, 0, []int{3, 4})), api.ErrObject},
		{"too many instructions", obj("m", coded("f", times(4097, code.Ins{Op: 11})...)), api.ErrObject},
		{"an instruction that is not right", obj("m", coded("f", code.Ins{Op: 18})), api.ErrObject},
		{"a number at an open place", obj("m", variable("v", num(1)), coded("f", code.Ins{Op: 4, N: 1}), reloc(0, 0, 1, "m", "v")), api.ErrObject},
		{"no Reloc", open(), api.ErrObject},
		{"a Reloc too few", open(reloc(0, 0, 1, "m", "v")), api.ErrObject},
		{"a Reloc too many", open(reloc(0, 0, 1, "m", "v"), reloc(0, 1, 2, "m", "f"), reloc(0, 1, 2, "m", "f")), api.ErrObject},
		{"out of order", open(reloc(0, 1, 2, "m", "f"), reloc(0, 0, 1, "m", "v")), api.ErrObject},
		{"another Kind", open(reloc(0, 0, 2, "m", "f"), reloc(0, 1, 2, "m", "f")), api.ErrObject},
		{"a Reloc without a Mod", open(reloc(0, 0, 1, "m", "v"), reloc(0, 1, 2, "", "f")), api.ErrName},
		{"a Reloc with a long Name", open(reloc(0, 0, 1, "m", "v"), reloc(0, 1, 2, "m", long(33))), api.ErrBig},
		{"a variable that is none", open(reloc(0, 0, 1, "m", "f"), reloc(0, 1, 2, "m", "f")), api.ErrObject},
		{"a function that is none", open(reloc(0, 0, 1, "m", "v"), reloc(0, 1, 2, "m", "v")), api.ErrObject},
		{"another module's variable", open(reloc(0, 0, 1, "k", "v"), reloc(0, 1, 2, "m", "f")), api.ErrObject},
	}
}

// mixer: the same numbers in each run.
type mixer uint64

func (x *mixer) next() uint64 {
	*x += 0x9e3779b97f4a7c15
	z := uint64(*x)
	z = (z ^ z>>30) * 0xbf58476d1ce4e5b9
	z = (z ^ z>>27) * 0x94d049bb133111eb
	return z ^ z>>31
}

// below: a number from 0 on that is below n.
func (x *mixer) below(n int) int {
	return int(x.next() % uint64(n))
}

func pick[T any](x *mixer, l []T) T {
	return l[x.below(len(l))]
}

func (x *mixer) types(n int) []int {
	var l []int
	for range x.below(n + 1) {
		l = append(l, 1+x.below(3))
	}
	return l
}

// object: one that is right. What its code does is chance.
func (x *mixer) object() object.Object {
	o := object.Object{Module: pick(x, []string{"m", "m", "k", "a"})}
	for _, name := range []string{"a", "b", "c", "d", "f", "m", "v", "w"} {
		switch x.below(6) {
		case 0, 1:
			o.Vars = append(o.Vars, object.Var{Name: name, Value: pick(x, rightValues())})
		case 2, 3:
			o.Fns = append(o.Fns, object.Fn{Name: name, Fn: code.Fn{Sig: code.Sig{Params: x.types(3), Result: x.below(4)}, Locals: x.types(4)}})
		}
	}
	for fn := range o.Fns {
		for range x.below(6) {
			x.emit(&o, fn)
		}
	}
	return o
}

// emit: an instruction more, with its Reloc, if it is an open place.
func (x *mixer) emit(o *object.Object, fn int) {
	f := &o.Fns[fn].Fn
	i := pick(x, []code.Ins{
		{Op: 4}, {Op: 5}, {Op: 10}, {Op: 4}, {Op: 10}, {Op: 10}, {Op: 1, V: pick(x, rightValues())}, {Op: 2, N: x.below(256)}, {Op: 3}, {Op: 6, N: 1 + x.below(4)}, {Op: 7, N: 1 + x.below(11)},
		{Op: 8, N: x.below(65536)}, {Op: 9}, {Op: 11}, {Op: 12}, {Op: 13}, {Op: 14}, {Op: 15, N: x.below(5)}, {Op: 16}, {Op: 17},
	})
	r := object.Reloc{Fn: fn, At: len(f.Code), Kind: kindOf(i.Op), Mod: o.Module}
	switch {
	case r.Kind == object.ToVar && len(o.Vars) == 0:
		return
	case r.Kind == object.ToVar:
		r.Name = pick(x, o.Vars).Name
	case r.Kind == object.ToFn && x.below(2) == 0:
		r.Name = pick(x, o.Fns).Name
	default:
		r.Mod, r.Name = pick(x, []string{"z", "y", "z0"}), pick(x, []string{"f", "g", "v", "a"})
	}
	f.Code = append(f.Code, i)
	if r.Kind != 0 {
		o.Relocs = append(o.Relocs, r)
	}
}

// near: the object in memory of its own with something about it changed, so that it may be not right any more.
func (x *mixer) near(o object.Object) object.Object {
	o = roomy(o)
	name := pick(x, []string{"a", "f", "v", "w", "zz", "", "9", "if", "a.b", long(33)})
	number := pick(x, []int{0, 1, 2, 3, 4, -1, 257, 65537, math.MaxInt})
	kind := x.below(9)
	switch {
	case kind == 0:
		o.Module = pick(x, []string{"m", "k", "z", "", "9", "if", long(33)})
	case kind < 3 && len(o.Vars) > 0:
		x.turnVar(&o, name, number)
	case kind < 5 && len(o.Fns) > 0:
		x.turnFn(&o.Fns[x.below(len(o.Fns))], name, number)
	case len(o.Relocs) > 0:
		x.turnReloc(&o, name, number)
	default:
		o.Relocs = append(o.Relocs, object.Reloc{Mod: o.Module, Name: "f", Kind: 2})
	}
	return o
}

func (x *mixer) turnVar(o *object.Object, name string, number int) {
	at := x.below(len(o.Vars))
	switch x.below(4) {
	case 0:
		o.Vars[at].Name = name
	case 1:
		o.Vars[at].Value.Type = number
	case 2:
		o.Vars[at].Value.Bits = pick(x, []uint64{0, 1, 2, math.MaxUint64})
	case 3:
		o.Vars = slices.Delete(o.Vars, at, at+1)
	}
}

func (x *mixer) turnFn(f *object.Fn, name string, number int) {
	g := &f.Fn
	switch x.below(6) {
	case 0:
		f.Name = name
	case 1:
		g.Sig.Params = append(g.Sig.Params, number)
	case 2:
		g.Sig.Result = number
	case 3:
		g.Locals = append(g.Locals, number)
	case 4:
		g.Code = append(g.Code, pick(x, []code.Ins{{Op: 4}, {Op: 10}, {Op: 11}, {Op: 17}, {Op: 18}, {Op: 2, N: 256}, {Op: 10, N: 1}}))
	case 5:
		if len(g.Code) > 0 {
			g.Code[x.below(len(g.Code))].N = number
		}
	}
}

func (x *mixer) turnReloc(o *object.Object, name string, number int) {
	at := x.below(len(o.Relocs))
	r := &o.Relocs[at]
	switch x.below(9) {
	case 0:
		r.Fn = number
	case 1:
		r.At = number
	case 2:
		r.Kind = number
	case 3:
		r.Mod = pick(x, []string{"m", "k", "z", "", "9", "if", long(33)})
	case 4, 5:
		r.Name = name
	case 6:
		o.Relocs = slices.Delete(o.Relocs, at, at+1)
	case 7:
		o.Relocs = append(o.Relocs, pick(x, o.Relocs))
	case 8:
		other := x.below(len(o.Relocs))
		o.Relocs[at], o.Relocs[other] = o.Relocs[other], o.Relocs[at]
	}
}
