package link_test

import (
	"fmt"
	"slices"
	"strings"
	"testing"

	"foundry/api"
	"foundry/code"
	"foundry/link"
	"foundry/object"
)

// many: so many objects of unlike modules, with nothing in them.
func many(n int) []object.Object {
	var l []object.Object
	for at := range n {
		l = append(l, obj(fmt.Sprint("m", at)))
	}
	return l
}

// F18.2: ErrBig.

func TestTooManyObjects(t *testing.T) {
	for _, n := range []int{0, 1, 30, 31} {
		l := append(many(n), five())
		i, p := link.Link(l)
		is(t, fmt.Sprint(n, " and main"), fmt.Sprint(problemKey(p), len(i.Fns)), fmt.Sprint(problemKey(api.Problem{}), 1))
	}
	for _, n := range []int{32, 33, 100, 5000} {
		isProblem(t, fmt.Sprint(n, " and main"), append(many(n), five()), api.ErrBig, "", 0)
		isProblem(t, fmt.Sprint("main and ", n), append(all(five()), many(n)...), api.ErrBig, "", 0)
	}
	isProblem(t, "32, and no main", many(32), api.ErrMain, "main", 0)
	isProblem(t, "33 zero objects", make([]object.Object, 33), api.ErrBig, "", 0)
	isProblem(t, "32 zero objects", make([]object.Object, 32), api.ErrName, "", 0)
	isProblem(t, "33 of one module", times(33, five()), api.ErrBig, "", 0)
	isProblem(t, "32 of one module", times(32, five()), api.ErrTwice, "main", 0)
	isImage(t, "one more in the spare room", append(many(31), five(), five())[:32:33], imageOf(t, five()))
}

// F18.2: the error of object.Right.

// wrongs: objects that are not right, each in its own way, of the module.
func wrongs(module string) map[api.Errno][]object.Object {
	strange := code.Fn{Code: []code.Ins{{Op: 18}}}
	return map[api.Errno][]object.Object{
		api.ErrTwice:  {obj(module, variable("v", num(1)), variable("v", num(1))), obj(module, bare("f"), variable("f", num(1)))},
		api.ErrName:   {obj(module, bare("if")), obj(module, variable("", num(1))), obj(module, function("f", "", "", "call @9.f; return"))},
		api.ErrBig:    {obj(module, bare(long(33))), obj(module, slices.Repeat([]part{bare("f")}, 65)...)},
		api.ErrObject: {obj(module, variable("v", truth(2))), obj(module, coded("f", strange)), obj(module, function("f", "", "", "load 0; return")), obj(module, function("f", "", "", "load @"+module+".v; return"))},
	}
}

func TestObjectsThatAreNotRight(t *testing.T) {
	for _, module := range []string{"a", "main", "z"} {
		for e, l := range wrongs(module) {
			for _, o := range l {
				is(t, "object.Right", object.Right(o), e)
				isProblem(t, "by itself", all(o), e, module, 0)
				for _, order := range orders(all(o, obj("k"), obj("mm"))) {
					isProblem(t, "beside others", order, e, module, 0)
				}
			}
		}
	}
	for _, name := range []string{"", "9", "if", "a.b", "\xff", " main"} {
		isProblem(t, "no name", all(obj(name), five()), api.ErrName, name, 0)
		isProblem(t, "no name", all(five(), obj(name)), api.ErrName, name, 0)
	}
	isProblem(t, "a long name", all(five(), obj(long(33))), api.ErrBig, long(33), 0)
	isProblem(t, "the zero object", all(five(), object.Object{}), api.ErrName, "", 0)
}

// The first one in the order, not as they are handed in.
func TestTheFirstObjectThatIsNotRight(t *testing.T) {
	a, k, z := wrongs("a")[api.ErrObject][0], wrongs("k")[api.ErrName][0], wrongs("z")[api.ErrBig][0]
	for _, order := range orders(all(a, k, z, five())) {
		isProblem(t, "three", order, api.ErrObject, "a", 0)
	}
	for _, order := range orders(all(k, z, five(), obj("b"))) {
		isProblem(t, "two", order, api.ErrName, "k", 0)
	}
	for _, order := range orders(all(z, five(), obj("b"), obj("k"))) {
		isProblem(t, "one", order, api.ErrBig, "z", 0)
	}
	for _, order := range orders(all(wrongs("Z")[api.ErrTwice][1], obj(""), obj("9"))) {
		isProblem(t, "modules without a name", order, api.ErrName, "", 0)
	}
	for _, order := range orders(all(wrongs("Z")[api.ErrTwice][1], obj("if"), obj("a"))) {
		isProblem(t, "a module's name behind another", order, api.ErrTwice, "Z", 0)
	}
}

// Of two of one module the one that comes first.
func TestTwoOfOneModuleThatAreNotRight(t *testing.T) {
	one, other, right := wrongs("k")[api.ErrObject][1], wrongs("k")[api.ErrName][0], obj("k")
	for _, between := range []object.Object{five(), obj("a"), obj("z")} {
		isProblem(t, "the one first", all(one, between, other), api.ErrObject, "k", 0)
		isProblem(t, "the other first", all(other, between, one), api.ErrName, "k", 0)
		isProblem(t, "a right one first", all(right, between, one, other), api.ErrObject, "k", 0)
		isProblem(t, "a right one between", all(other, right, between, one), api.ErrName, "k", 0)
		isProblem(t, "the second one alone", all(right, between, other), api.ErrName, "k", 0)
	}
}

// F18.2: ErrTwice.

func TestTwoOfOneModule(t *testing.T) {
	k := obj("k", variable("v", num(1)), function("f", "", "", "return"))
	for _, order := range orders(all(k, kf(), five())) {
		isProblem(t, "unlike ones", order, api.ErrTwice, "k", 0)
	}
	for _, order := range orders(all(k, k, five(), obj("a"))) {
		isProblem(t, "like ones", order, api.ErrTwice, "k", 0)
	}
	isProblem(t, "main twice", all(five(), five()), api.ErrTwice, "main", 0)
	for _, order := range orders(all(obj("b"), obj("b"), obj("z"), obj("z"), five())) {
		isProblem(t, "the least of two", order, api.ErrTwice, "b", 0)
	}
	for _, order := range orders(all(obj("Z"), obj("Z"), obj("a"), obj("a"), obj("a"))) {
		isProblem(t, "three of one", order, api.ErrTwice, "Z", 0)
	}
	for _, order := range orders(all(obj("a"), five(), obj("z"), obj("z"))) {
		isProblem(t, "the last module", order, api.ErrTwice, "z", 0)
	}
	isProblem(t, "one and its beginnings", all(obj("k"), obj("kk"), obj("K"), obj("k_"), obj("kk")), api.ErrTwice, "kk", 0)
	isImage(t, "like names, and no two alike", all(obj("k"), obj("kk"), five(), obj("K"), obj("k_")), imageOf(t, five()))
}

// F18.2: ErrSymbol.

func TestNoSuchSymbol(t *testing.T) {
	k := func() object.Object {
		return obj("k", variable("v", num(1)), function("f", "", "", "return"))
	}
	for _, c := range []struct{ what, name string }{
		{"another module", "j.f"}, {"a module like it", "kk.f"}, {"the beginning of a module", "K.f"}, {"another name", "k.g"}, {"a name like it", "k.F"}, {"another Kind", "k.v"}, {"a module's own name", "k.k"}, {"main, that k has not", "k.main"},
	} {
		for _, order := range orders(all(mainOf("call @"+c.name+"; push 1; return"), k(), obj("a", function("g", "", "", "return")))) {
			isProblem(t, c.what, order, api.ErrSymbol, "main", 0)
		}
	}
	isProblem(t, "the name in main alone", all(mainOf("call @k.g; return", function("g", "", "", "return")), k()), api.ErrSymbol, "main", 0)
	isProblem(t, "named behind the end", all(mainOf("push 1; return; call @k.g"), k()), api.ErrSymbol, "main", 0)
	isProblem(t, "named by another one", all(five(), obj("z", function("f", "", "", "call @y.f; return"))), api.ErrSymbol, "z", 0)
	isImage(t, "all there", all(mainOf("call @k.f; push 1; return"), k()), imageOf(t, mainOf("call @k.f; push 1; return"), k()))
}

// The first object in the order, in it the first Reloc, counted from the object's first one.
func TestTheFirstRelocWithoutASymbol(t *testing.T) {
	main := mainOf("load @main.v; call @k.f; call @main.main; call @k.no; call @j.f; return", variable("v", num(1)), function("f", "", "", "call @k.f; call @k.no; return"))
	k := obj("k", function("e", "", "", "call @k.f; call @k.f; return"), function("f", "", "", "call @main.f; return"))
	for _, order := range orders(all(main, k, obj("z", function("f", "", "", "call @y.f; return")))) {
		isProblem(t, "the fourth of main", order, api.ErrSymbol, "main", 3)
	}
	function("g", "", "", "call @k.g; call @main.none; return")(&k)
	for _, order := range orders(all(main, k, five())[:2]) {
		isProblem(t, "the fifth of k", order, api.ErrSymbol, "k", 4)
	}
	for n := range 6 {
		late := mainOf(strings.Repeat("call @main.main; drop; ", n)+"push 1; return", function("f", "", "", strings.Repeat("call @k.f; ", n)+"call @k.no; return"))
		isProblem(t, fmt.Sprint("behind ", 2*n), all(k, late)[1:], api.ErrSymbol, "main", min(n, 2*n))
		isProblem(t, fmt.Sprint("behind ", 2*n, ", with k"), all(obj("k", function("f", "", "", "return")), late), api.ErrSymbol, "main", 2*n)
	}
	for at := range 64 {
		l := full(4, 10, 20)
		named := at * len(l[1].Relocs) / 64
		if l[1].Relocs[named].Kind == object.ToVar {
			named++
		}
		l[1].Relocs[named].Mod = "nobody"
		slices.Reverse(l)
		isProblem(t, "one of many", l, api.ErrSymbol, l[2].Module, named)
	}
}

// F18.2: ErrMain.

func TestNoMain(t *testing.T) {
	lack := func(what string, l ...object.Object) {
		t.Helper()
		for _, order := range orders(l) {
			isProblem(t, what, order, api.ErrMain, "main", 0)
		}
	}
	lack("no object")
	lack("no module main", kf(), obj("a"))
	lack("nothing in main", obj("main"), kf())
	lack("main in another module", obj("k", function("main", ":i", "", "push 1; return")), obj("main", function("f", ":i", "", "push 1; return")))
	lack("main in modules like it", obj("main0", function("main", ":i", "", "push 1; return")), obj("Main", function("main", ":i", "", "push 1; return")), obj("mai", function("main", ":i", "", "push 1; return")))
	lack("names like main", obj("main", function("Main", ":i", "", "push 1; return"), function("main_", ":i", "", "push 1; return"), function("mai", ":i", "", "push 1; return")))
	lack("a variable main", obj("main", variable("main", num(1)), function("f", ":i", "", "push 1; return")), kf())
	for _, signature := range []string{"i:i", "f:i", "b:i", "ii:i", "iiiiiiii:i", "", ":f", ":b", "i", "b:b"} {
		lack("main with "+signature, obj("main", function("main", signature, "", "jump 0"), function("f", ":i", "", "push 1; return")), kf())
	}
}

// F18.2: the error of code.Verify.

// faultyCode: functions without a parameter and without a result that are not right, though an object may have them.
func faultyCode() map[api.Errno][]string {
	return map[api.Errno][]string{
		api.ErrCode: {"", "push 1", "drop; return", "jump 1", "get 0; return", "push true; fail", "call @main.f; un 1; drop; return", "call @main.g; return", "push true; store @main.v; return", "load @main.v; un 2; drop; return", "untry; return"},
		api.ErrType: {"push 1; jump 0", "push true; unless 3; push 1; return", "try 0; return"},
		api.ErrBig:  {strings.Repeat("push 1; ", 513) + "return", tries(33)},
	}
}

// tries: so many that are open at once, each with a place of its own.
func tries(n int) string {
	var text string
	for at := range n {
		text += fmt.Sprintf("try %d; ", n+1+at)
	}
	return text + strings.Repeat("return; ", n+1)
}

func TestCodeThatIsNotRight(t *testing.T) {
	for e, texts := range faultyCode() {
		for _, text := range texts {
			for n := range 4 {
				main := mainOf("push 1; return", variable("v", num(1)), function("f", "", "", "return"), function("g", "i", "", "return"))
				o := &main
				k := obj("k", function("f", "", "", "return"))
				if !strings.Contains(text, "@main.v") {
					o = &k
				}
				for at := range n {
					function(fmt.Sprint("h", at), "", "", "return")(o)
				}
				place := len(o.Fns)
				function("wrong", "", "", text)(o)
				function("last", "", "", "return")(o)
				for _, order := range orders(all(main, k, obj("z", function("f", "", "", "return")), obj("a", function("f", "", "", "return"), function("g", "", "", "return")))) {
					isProblem(t, short(text), order, e, o.Module, place)
				}
			}
		}
	}
}

// What an object may have, and a program not: Locals that do not begin with Params, a result that is not there.
func TestFunctionsThatAreNotRight(t *testing.T) {
	for _, f := range []code.Fn{
		{}, {Sig: code.Sig{Params: []int{1}}, Code: []code.Ins{{Op: 11}}}, {Sig: code.Sig{Params: []int{1}}, Locals: []int{2}, Code: []code.Ins{{Op: 11}}},
		{Sig: code.Sig{Params: []int{1, 2}}, Locals: []int{1}, Code: []code.Ins{{Op: 11}}}, {Sig: code.Sig{Result: 1}, Code: []code.Ins{{Op: 11}}},
	} {
		isProblem(t, fmt.Sprint(f), all(five(), obj("k", function("f", "", "", "return"), coded("g", f))), api.ErrCode, "k", 1)
		isProblem(t, fmt.Sprint(f), all(obj("z", coded("g", f)), five()), api.ErrCode, "z", 0)
	}
}

// The arguments are held against the function that the name stands for, not against one that has its number elsewhere.
func TestCallsOfOtherSignatures(t *testing.T) {
	main := mainOf("push 1; call @k.f; return")
	isImage(t, "as it is called", all(main, obj("k", function("f", "i:i", "", "get 0; return"))), imageOf(t, main, obj("k", function("f", "i:i", "", "get 0; return"))))
	for _, c := range []struct{ signature, text string }{{"f:i", "push 1; return"}, {":f", "push 1.5; return"}, {"i:f", "push 1.5; return"}, {"ii:i", "get 0; return"}, {"i", "return"}, {"b:i", "push 1; return"}} {
		for _, order := range orders(all(main, obj("k", function("f", c.signature, "", c.text)), obj("a", function("f", "i:i", "", "get 0; return")))) {
			isProblem(t, "k.f is "+c.signature, order, api.ErrCode, "main", 0)
		}
	}
}

// The first function by its number in the image, whatever its error.
func TestTheFirstFunctionThatIsNotRight(t *testing.T) {
	right := function("f", "", "", "return")
	a := obj("a", right, function("g", "", "", "push 1; jump 0"), function("h", "", "", "return; return"), function("i", "", "", "drop"))
	k := obj("k", variable("v", num(1)), right, right)
	k.Fns[1] = object.Fn{Name: "g"}
	z := obj("z", function("f", "", "", strings.Repeat("push 1; ", 513)+"return"), function("g", "", "", "jump 7"))
	for _, order := range orders(all(five(), a, k, z)) {
		isProblem(t, "three objects", order, api.ErrType, "a", 1)
	}
	for _, order := range orders(all(five(), obj("b"), k, z)) {
		isProblem(t, "two objects", order, api.ErrCode, "k", 1)
	}
	for _, order := range orders(all(five(), obj("b"), obj("k", right), z)) {
		isProblem(t, "one object", order, api.ErrBig, "z", 0)
	}
	for _, order := range orders(all(mainOf("push 1", function("g", "", "", "jump 7")), z)) {
		isProblem(t, "main itself", order, api.ErrCode, "main", 0)
	}
}

// Which of two comes first.

// fault: something that is put into the objects, and the problem of it, if it is the first one.
type fault struct {
	what string
	put  func(l []object.Object) []object.Object
	want api.Problem
}

func adds(more ...object.Object) func(l []object.Object) []object.Object {
	return func(l []object.Object) []object.Object { return append(l, more...) }
}

// faults: in the order in which they are told. That there are too many is put in last, over all else.
func faults() []fault {
	fill := func(l []object.Object) []object.Object {
		for at := 0; len(l) < 33; at++ {
			l = append(l, obj(fmt.Sprint("fill", at)))
		}
		return l
	}
	noMain := func(l []object.Object) []object.Object {
		return slices.DeleteFunc(l, func(o object.Object) bool { return o.Module == "main" })
	}
	short := function("f", "", "", "return")
	return []fault{
		{"too many", fill, api.Problem{Code: api.ErrBig}},
		{"a name that the own module has not", adds(obj("aa", function("f", "", "", "call @aa.f; call @aa.g; return"), function("g", "", "", "call @aa.no; return"))), api.Problem{Code: api.ErrObject, Module: "aa"}},
		{"a wrong object", adds(obj("c", variable("v", truth(2)))), api.Problem{Code: api.ErrObject, Module: "c"}},
		{"a wrong object behind main", adds(obj("x", bare("f"), bare("f"))), api.Problem{Code: api.ErrTwice, Module: "x"}},
		{"two of one module", adds(obj("b"), obj("b", short)), api.Problem{Code: api.ErrTwice, Module: "b"}},
		{"two of one module behind main", adds(obj("w", short), obj("w")), api.Problem{Code: api.ErrTwice, Module: "w"}},
		{"no such symbol", adds(obj("d", function("f", "", "", "call @d.f; call @e.f; return"))), api.Problem{Code: api.ErrSymbol, Module: "d", Place: 1}},
		{"no such symbol behind main", adds(obj("v", function("f", "", "", "call @e.f; return"))), api.Problem{Code: api.ErrSymbol, Module: "v"}},
		{"no main", noMain, api.Problem{Code: api.ErrMain, Module: "main"}},
		{"wrong code", adds(obj("a", short, function("g", "", "", "jump 9"))), api.Problem{Code: api.ErrCode, Module: "a", Place: 1}},
		{"wrong code behind main", adds(obj("z", variable("v", num(1)), function("f", "", "", "push 1; jump 0"))), api.Problem{Code: api.ErrType, Module: "z"}},
	}
}

func TestWhichProblemComesFirst(t *testing.T) {
	all := faults()
	x := mixer(1802)
	for set := range 1 << len(all) {
		l := []object.Object{five(), obj("k", function("f", "", "", "return"))}
		var what []string
		var want api.Problem
		for at := len(all) - 1; at >= 0; at-- {
			if set>>at&1 == 1 {
				l = all[at].put(l)
				what, want = append(what, all[at].what), all[at].want
			}
		}
		l = shuffled(&x, l)
		_, p := link.Link(l)
		is(t, strings.Join(what, ", "), problemKey(p), problemKey(want))
		_, p = link.Bytes(l)
		is(t, "Bytes of "+strings.Join(what, ", "), problemKey(p), problemKey(want))
	}
}

// All kinds of problems, as the model tells them.
func TestProblemsAreTheModels(t *testing.T) {
	seen := map[api.Errno]int{}
	for seed := range uint64(6000) {
		x := mixer(seed + 99)
		l := shuffled(&x, made(2000+seed%300))
		for range 1 + x.below(4) {
			l = x.near(l)
		}
		i, p := modelLink(l)
		isText(t, fmt.Sprint("seed ", seed), linked(l), imageTold(i, p))
		seen[p.Code]++
	}
	for _, e := range []api.Errno{api.OK, api.ErrName, api.ErrTwice, api.ErrObject, api.ErrSymbol, api.ErrMain, api.ErrCode} {
		if seen[e] < 60 {
			t.Errorf("only %d times %d", seen[e], int(e))
		}
	}
}
