package link_test

import (
	"fmt"
	"slices"
	"testing"

	"foundry/api"
	"foundry/code"
	"foundry/image"
	"foundry/link"
	"foundry/object"
)

// kf: the object k of the chapter's examples.
func kf() object.Object {
	return obj("k", function("f", ":i", "", "push 1; return"))
}

func TestExamples(t *testing.T) {
	isProblem(t, "none", nil, api.ErrMain, "main", 0)
	main := mainOf("call @k.f; return")
	want := image.Image{Fns: []code.Fn{fn(":i", "", "push 1; return"), fn(":i", "", "call 0; return")}, Main: 1}
	isImage(t, "main and k", all(main, kf()), want)
	isImage(t, "k and main", all(kf(), main), want)
	isProblem(t, "main alone", all(main), api.ErrSymbol, "main", 0)
	isProblem(t, "nothing to return", all(mainOf("return")), api.ErrCode, "main", 0)
	isProblem(t, "two of k, and no main", all(kf(), kf()), api.ErrTwice, "k", 0)
}

// F18.2: the image.

func TestImageOfOneObject(t *testing.T) {
	isImage(t, "least", all(five()), image.Image{Fns: []code.Fn{fn(":i", "", "push 5; return")}})
	second := obj("main", function("f", "", "", "return"), function("main", ":i", "", "push 5; return"))
	isImage(t, "main is the second function", all(second), image.Image{Fns: []code.Fn{fn("", "", "return"), fn(":i", "", "push 5; return")}, Main: 1})
	isImage(t, "variables", all(mainOf("load @main.w; return", variable("v", truth(1)), variable("w", num(7)))),
		image.Image{Vars: []api.Value{truth(1), num(7)}, Fns: []code.Fn{fn(":i", "", "load 1; return")}})
	isImage(t, "it calls itself", all(mainOf("call @main.main; return")), image.Image{Fns: []code.Fn{fn(":i", "", "call 0; return")}})
	isImage(t, "locals", all(mainOf("call @main.f; return", function("f", ":i", "fb", "push 1; return"))),
		image.Image{Fns: []code.Fn{fn(":i", "", "call 1; return"), fn(":i", "fb", "push 1; return")}})
	isImage(t, "parameters", all(mainOf("push 1; push true; call @main.f; drop; push 2; return", function("f", "ib:f", "i", "push 1.5; return"))),
		image.Image{Fns: []code.Fn{fn(":i", "", "push 1; push true; call 1; drop; push 2; return"), fn("ib:f", "i", "push 1.5; return")}})
}

// threeModules: with main in the middle of the order.
func threeModules() []object.Object {
	return all(
		obj("a", variable("v", float(1.5)), variable("w", num(3)), function("f", "", "", "load @a.w; store @a.w; load @a.v; drop; return"), function("g", ":i", "", "load @a.w; return")),
		obj("main", variable("v", num(9)), function("f", "i:i", "b", "get 0; load @main.v; bin 1; call @z.g; return"), function("main", ":i", "", "call @a.g; call @main.f; call @a.f; return")),
		obj("z", function("h", ":b", "", "load @z.b; return"), variable("b", truth(0)), function("g", "i:i", "", "call @z.h; unless 4; get 0; return; call @a.g; return"), variable("v", truth(1))),
	)
}

func TestImageOfThreeModules(t *testing.T) {
	want := image.Image{
		Vars: []api.Value{float(1.5), num(3), num(9), truth(0), truth(1)},
		Fns: []code.Fn{
			fn("", "", "load 1; store 1; load 0; drop; return"),
			fn(":i", "", "load 1; return"),
			fn("i:i", "b", "get 0; load 2; bin 1; call 5; return"),
			fn(":i", "", "call 1; call 2; call 0; return"),
			fn(":b", "", "load 3; return"),
			fn("i:i", "", "call 4; unless 4; get 0; return; call 1; return"),
		},
		Main: 3,
	}
	for _, order := range orders(threeModules()) {
		isImage(t, "in each order", order, want)
	}
}

// Like names of other modules, and of the other Kind, are other symbols.
func TestLikeNames(t *testing.T) {
	l := all(
		obj("x", variable("f", num(1)), function("y", ":i", "", "load @x.f; return")),
		obj("y", function("f", ":i", "", "load @y.y; return"), variable("y", num(2)), variable("x", num(3))),
		obj("f", function("x", ":i", "", "call @x.y; return"), variable("y", num(4)), function("main", ":i", "", "load @f.y; return")),
		mainOf("call @y.f; drop; call @f.x; drop; call @x.y; drop; call @main.f; drop; load @main.y; return", function("f", ":i", "", "call @f.main; return"), variable("y", num(5))),
	)
	want := image.Image{
		Vars: []api.Value{num(4), num(5), num(1), num(2), num(3)},
		Fns: []code.Fn{
			fn(":i", "", "call 4; return"), fn(":i", "", "load 0; return"),
			fn(":i", "", "call 5; drop; call 0; drop; call 4; drop; call 3; drop; load 1; return"), fn(":i", "", "call 1; return"),
			fn(":i", "", "load 2; return"), fn(":i", "", "load 3; return"),
		},
		Main: 2,
	}
	for _, order := range orders(l) {
		isImage(t, "like names", order, want)
	}
}

// Several Relocs in one function; one symbol that several functions name.
func TestOneSymbolNamedOften(t *testing.T) {
	often := "call @k.f; call @k.g; store @main.v; load @main.v; bin 1; call @k.f; bin 1; store @main.w; load @main.w; call @k.g; bin 1; return"
	l := all(
		mainOf(often, function("f", ":i", "", often), variable("v", num(1)), variable("w", num(2))),
		obj("k", function("g", ":i", "", "call @k.f; return"), function("f", ":i", "", "call @k.f; return")),
		obj("b", variable("v", num(7)), function("f", "", "", "call @k.f; drop; call @main.f; drop; return")),
	)
	closed := "call 2; call 1; store 1; load 1; bin 1; call 2; bin 1; store 2; load 2; call 1; bin 1; return"
	want := image.Image{
		Vars: []api.Value{num(7), num(1), num(2)},
		Fns:  []code.Fn{fn("", "", "call 2; drop; call 4; drop; return"), fn(":i", "", "call 2; return"), fn(":i", "", "call 2; return"), fn(":i", "", closed), fn(":i", "", closed)},
		Main: 3,
	}
	for _, order := range orders(l) {
		isImage(t, "one symbol", order, want)
	}
}

// P1802: what is no open place keeps its N, whatever it is; also behind the end, where nothing comes to it.
func TestOtherPlacesStay(t *testing.T) {
	text := "get 1; put 1; push 1; un 1; drop; push true; unless 8; jump 8; try 12; untry; push 3; return; return"
	dead := "; get 255; put 255; un 4; bin 11; jump 4095; unless 258; try 65535; show; fail; input; untry; drop; push 1.5"
	l := all(mainOf("call @main.f; return", function("f", ":i", "bi", text+dead+"; load @main.v; store @main.v; call @k.f"), variable("v", num(1))), obj("k", variable("v", num(0)), function("e", "", "", "return"), function("f", "", "", "return")))
	isImage(t, "other places", l, image.Image{
		Vars: []api.Value{num(0), num(1)},
		Fns:  []code.Fn{fn("", "", "return"), fn("", "", "return"), fn(":i", "", "call 3; return"), fn(":i", "bi", text+dead+"; load 1; store 1; call 1")},
		Main: 2,
	})
}

// Each value stays as it is, at first and where it is pushed.
func TestValuesStay(t *testing.T) {
	l := all(five(), obj("a"), obj("z"))
	want := image.Image{Fns: []code.Fn{fn(":i", "", "push 5; return")}}
	for at, v := range rightValues() {
		pushed := code.Fn{Code: []code.Ins{{Op: 1, V: v}, {Op: 12}, {Op: 11}}}
		coded(fmt.Sprint("f", at), pushed)(&l[2])
		variable(fmt.Sprint("v", at), v)(&l[1])
		want.Vars, want.Fns = append(want.Vars, v), append(want.Fns, pushed)
	}
	isImage(t, "values", l, want)
}

func TestMainsNumber(t *testing.T) {
	for at := range 5 {
		var l []object.Object
		for n := range 4 {
			module := fmt.Sprint([]string{"z", "a"}[min(1, (n+at)/4)], n)
			l = append(l, obj(module, function("main", "", "", "return"), function("f", "", "", "return")))
		}
		l = append(l, obj("main", function("f", "", "", "return"), function("g", "", "", "return"), function("main", ":i", "", "push 5; return")))
		i, p := link.Link(l)
		is(t, "Link", problemKey(p), problemKey(api.Problem{}))
		is(t, "Main", i.Main, 2*at+2)
		is(t, "its Code", fmt.Sprint(i.Fns[i.Main]), fmt.Sprint(fn(":i", "", "push 5; return")))
	}
}

// full: so many objects with so many variables and functions each, one of which is main's; each function calls the next one, and loads or stores.
func full(objects, vars, fns int) []object.Object {
	var l []object.Object
	module := func(at int) string {
		if at == objects/2 {
			return "main"
		}
		return fmt.Sprintf("%s%02d", []string{"a", "z"}[min(1, at/max(1, objects/2))], at)
	}
	name := func(at int) string {
		if at == 0 {
			return "main"
		}
		return fmt.Sprint("f", at)
	}
	for at := range objects {
		o := obj(module(at))
		for n := range vars {
			variable(fmt.Sprint("v", n), num(int64(at*100+n)))(&o)
		}
		for n := range fns {
			next := at*fns + n + 1
			text := fmt.Sprintf("call @%s.%s; return", module(next/fns%objects), name(next%fns))
			if vars > 0 {
				text = fmt.Sprintf("load @%s.v%d; drop; ", o.Module, n%vars) + text
			}
			function(name(n), ":i", "", text)(&o)
		}
		l = append(l, o)
	}
	return l
}

func TestAsManyAsThereMayBe(t *testing.T) {
	is(t, "MaxModules", api.MaxModules, 32)
	is(t, "MaxItems", api.MaxItems, 64)
	for _, c := range [][3]int{{1, 63, 1}, {1, 0, 64}, {32, 0, 64}, {32, 63, 1}, {32, 32, 32}, {31, 1, 63}, {32, 0, 1}} {
		objects, vars, fns := c[0], c[1], c[2]
		l := full(objects, vars, fns)
		slices.Reverse(l)
		i, p := link.Link(l)
		what := fmt.Sprint(c)
		is(t, what+": Link", problemKey(p), problemKey(api.Problem{}))
		is(t, what+": how many", fmt.Sprint(len(i.Vars), len(i.Fns), i.Main), fmt.Sprint(objects*vars, objects*fns, objects/2*fns))
		for n, v := range i.Vars {
			is(t, what+": a variable", v, num(int64(n/vars*100+n%vars)))
		}
		for n, f := range i.Fns {
			l := f.Code
			if vars > 0 {
				is(t, what+": a load", l[0].N, n/fns*vars+n%fns%vars)
				l = l[2:]
			}
			is(t, what+": a call", l[0].N, (n+1)%(objects*fns))
		}
		is(t, what+": image.Right", image.Right(i), api.OK)
	}
}

// P1802, P1803, and all else that the chapter says of images.
func TestImagesAreTheModels(t *testing.T) {
	seen := map[int]int{}
	relocs, modules := 0, 0
	for seed := range uint64(400) {
		l := made(seed)
		want, p := modelLink(l)
		is(t, fmt.Sprint("seed ", seed, ": the model"), problemKey(p), problemKey(api.Problem{}))
		isImage(t, fmt.Sprint("seed ", seed), l, want)
		for _, o := range l {
			relocs += len(o.Relocs)
			for _, r := range o.Relocs {
				seen[r.Kind]++
				if r.Mod != o.Module {
					seen[0]++
				}
			}
		}
		modules = max(modules, len(l))
	}
	if modules != 6 || seen[object.ToVar] < 1000 || seen[object.ToFn] < 3000 || seen[0] < 2000 {
		t.Errorf("up to %d modules, %d Relocs: %v", modules, relocs, seen)
	}
}

// P1802: each function, its open places told by the names that their numbers have in Symbols, is the object's, told by the names of its Relocs.
func TestNumbersAreThoseOfTheNames(t *testing.T) {
	for seed := range uint64(300) {
		l := made(1000 + seed)
		i, _ := link.Link(l)
		var named [3][]link.Symbol
		for _, s := range link.Symbols(l) {
			named[s.Kind] = append(named[s.Kind], s)
		}
		is(t, "how many", fmt.Sprint(len(i.Vars), len(i.Fns)), fmt.Sprint(len(named[1]), len(named[2])))
		for n, s := range named[2] {
			o := l[slices.IndexFunc(l, func(o object.Object) bool { return o.Module == s.Mod })]
			at := slices.IndexFunc(o.Fns, func(f object.Fn) bool { return f.Name == s.Name })
			var got, want []string
			for _, ins := range i.Fns[n].Code {
				text := code.Text(ins)
				if kind := kindOf(ins.Op); kind != 0 {
					by := named[kind][ins.N]
					text = fmt.Sprintf("%d @%s.%s", ins.Op, by.Mod, by.Name)
				}
				got = append(got, text)
			}
			for place, ins := range o.Fns[at].Fn.Code {
				text := code.Text(ins)
				for _, r := range o.Relocs {
					if r.Fn == at && r.At == place {
						text = fmt.Sprintf("%d @%s.%s", ins.Op, r.Mod, r.Name)
					}
				}
				want = append(want, text)
			}
			isText(t, fmt.Sprint("seed ", seed, " ", s), fmt.Sprint(got), fmt.Sprint(want))
			isText(t, "its signature", fmt.Sprint(i.Fns[n].Sig, i.Fns[n].Locals), fmt.Sprint(o.Fns[at].Fn.Sig, o.Fns[at].Fn.Locals))
		}
		is(t, "Main", fmt.Sprint(named[2][i.Main].Mod, named[2][i.Main].Name), "mainmain")
	}
}
