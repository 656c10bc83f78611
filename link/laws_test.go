package link_test

import (
	"fmt"
	"slices"
	"testing"

	"foundry/api"
	"foundry/code"
	"foundry/gen"
	"foundry/iface"
	"foundry/image"
	"foundry/link"
	"foundry/object"
	"foundry/parse"
)

// P1801: the same objects in other orders.

func TestLinkHangsOnNoOrder(t *testing.T) {
	for seed := range uint64(150) {
		l := made(4000 + seed)
		x := mixer(seed)
		want, bytes := linked(l), packed(l)
		symbols := symbolsTold(link.Symbols(l))
		for range 5 {
			other := shuffled(&x, l)
			isText(t, "Link of "+names(other), linked(other), want)
			isText(t, "Bytes of "+names(other), packed(other), bytes)
			isText(t, "Symbols of "+names(other), symbolsTold(link.Symbols(other)), symbols)
		}
	}
}

func TestProblemsHangOnNoOrder(t *testing.T) {
	seen := map[api.Errno]int{}
	for seed := range uint64(600) {
		x := mixer(seed + 5)
		l := x.near(x.near(made(5000 + seed%100)))
		want, bytes := linked(l), packed(l)
		_, p := link.Link(l)
		seen[p.Code]++
		// Of two of one module that are not right the one that comes first is told.
		if p.Code == api.ErrObject || p.Code == api.ErrName {
			continue
		}
		for range 5 {
			other := shuffled(&x, l)
			isText(t, "Link of "+names(other), linked(other), want)
			isText(t, "Bytes of "+names(other), packed(other), bytes)
		}
	}
	if seen[api.OK] == 600 || seen[api.ErrTwice] == 0 || seen[api.ErrSymbol] == 0 || seen[api.ErrCode] == 0 {
		t.Errorf("problems: %v", seen)
	}
}

// P1804: an object more, that nothing names, whose Module is behind all others.

func TestAnObjectMore(t *testing.T) {
	for seed := range uint64(150) {
		l := made(6000 + seed)
		more := obj("zzz", variable("v", num(1)), function("f", "", "", "load @zzz.v; store @zzz.v; return"), variable("main", truth(1)), function("g", ":i", "", "call @main.main; return"))
		x := mixer(seed)
		with := shuffled(&x, append(slices.Clone(l), more))
		i, p := link.Link(l)
		is(t, "Link", problemKey(p), problemKey(api.Problem{}))
		j, p := link.Link(with)
		is(t, "Link with one more", problemKey(p), problemKey(api.Problem{}))
		vars, fns := len(i.Vars), len(i.Fns)
		is(t, "how many", fmt.Sprint(len(j.Vars), len(j.Fns), j.Main), fmt.Sprint(vars+2, fns+2, i.Main))
		is(t, "the variables that come last", fmt.Sprint(j.Vars[vars:]), fmt.Sprint([]api.Value{num(1), truth(1)}))
		last := []code.Fn{fn("", "", fmt.Sprintf("load %d; store %d; return", vars, vars)), fn(":i", "", fmt.Sprintf("call %d; return", i.Main))}
		is(t, "the functions that come last", fmt.Sprint(j.Fns[fns:]), fmt.Sprint(last))
		j.Vars, j.Fns = j.Vars[:vars], j.Fns[:fns]
		isText(t, "what was there", key(j), key(i))
		symbolsStay(t, link.Symbols(l), link.Symbols(with))
	}
}

// symbolsStay fails unless each of the symbols is among the others, with its number.
func symbolsStay(t *testing.T, l, others []link.Symbol) {
	t.Helper()
	for _, s := range l {
		if !slices.Contains(others, s) {
			t.Errorf("%v is not there any more", s)
		}
	}
}

// Of one that stands ahead the numbers go up, by as many as it has.
func TestAnObjectMoreAhead(t *testing.T) {
	for seed := range uint64(50) {
		l := made(7000 + seed)
		i, _ := link.Link(l)
		j, p := link.Link(append(slices.Clone(l), obj("A", variable("v", num(1)), function("f", "", "", "return"), function("g", "", "", "return"))))
		is(t, "Link with one more", problemKey(p), problemKey(api.Problem{}))
		is(t, "Main", j.Main, i.Main+2)
		is(t, "how many", fmt.Sprint(len(j.Vars), len(j.Fns)), fmt.Sprint(len(i.Vars)+1, len(i.Fns)+2))
		for n, f := range i.Fns {
			for at, ins := range f.Code {
				got := j.Fns[n+2].Code[at]
				ins.N += []int{0, 1, 2}[kindOf(ins.Op)]
				is(t, "an instruction", got, ins)
			}
		}
	}
}

// What gen makes of modules that import one another.

// project: texts of modules, each behind those that it imports.
func project() []string {
	return []string{
		"module k; export const C: int = 3; var v: int = 2; export fn f(a: int): int { v = v + a; return v * C; } fn own(): bool { return v > 5; } export fn g(b: bool) { if b { show f(1); } else { show own(); } }",
		"module a; import k; var v: float = 1.5; var w: bool = true; export fn f(): float { while w { w = k.f(k.C) < 100; v = v * 2.0; } return v; } export fn none() { }",
		"module z; import a; import k; export fn main(a0: int): int { try { k.g(a0 == 1); fail k.f(a0); } catch e { return e; } }",
		"module main; import z; import a; import k; var v: int = 10; fn f(n: int): int { if n < 1 { return k.f(n); } return f(n - 1) + v; } fn main(): int { show a.f(); a.none(); v = f(3); show z.main(v); k.g(false); return v; }",
	}
}

// generated: the objects of the texts.
func generated(t *testing.T, texts []string) []object.Object {
	t.Helper()
	var l []object.Object
	var shown []api.Iface
	for _, text := range texts {
		m, at, e := parse.Parse(text)
		if e != api.OK {
			t.Fatalf("%s: %v at %d", text, e, at)
		}
		o, at, e := gen.Gen(m, shown)
		if e != api.OK {
			t.Fatalf("%s: %v at %d", text, e, at)
		}
		f, _, e := iface.Extract(m, shown)
		if e != api.OK {
			t.Fatalf("%s: %v", text, e)
		}
		l, shown = append(l, o), append(shown, f)
	}
	return l
}

func TestWhatGenMakes(t *testing.T) {
	l := generated(t, project())
	want := imageOf(t, l...)
	is(t, "how many", fmt.Sprint(len(want.Vars), len(want.Fns), want.Main), "4 8 6")
	for _, order := range orders(l) {
		isImage(t, "in each order", order, want)
	}
	is(t, "image.Right", image.Right(want), api.OK)
	symbolsAre(t, "project", l, "a.v 1 0", "a.w 1 1", "k.v 1 2", "main.v 1 3", "a.f 2 0", "a.none 2 1", "k.f 2 2", "k.own 2 3", "k.g 2 4", "main.f 2 5", "main.main 2 6", "z.main 2 7")
}

// One module less, or another one in its place.
func TestWhatGenMakesOfOtherModules(t *testing.T) {
	texts := project()
	l := generated(t, texts)
	firstOf := func(o object.Object, mod string) int {
		return slices.IndexFunc(o.Relocs, func(r object.Reloc) bool { return r.Mod == mod })
	}
	isProblem(t, "no k", all(l[1], l[2], l[3]), api.ErrSymbol, "a", firstOf(l[1], "k"))
	isProblem(t, "no main", l[:3], api.ErrMain, "main", 0)
	isProblem(t, "no z", all(l[3], l[0], l[1]), api.ErrSymbol, "main", firstOf(l[3], "z"))
	isProblem(t, "main once more", append(slices.Clone(l), l[3]), api.ErrTwice, "main", 0)
	other := generated(t, []string{"module k; export const C: int = 3; export fn f(a: int): float { return float(a); } export fn g(b: bool) { }"})
	isProblem(t, "k.f with another result", all(l[3], other[0], l[1], l[2]), api.ErrCode, "a", 0)
	other = generated(t, []string{"module k; var f: int = 1; export fn g(b: bool) { }"})
	isProblem(t, "k.f is a variable", all(l[3], other[0], l[1], l[2]), api.ErrSymbol, "a", firstOf(l[1], "k"))
}
