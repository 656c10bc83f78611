package link_test

import (
	"fmt"
	"slices"
	"strings"
	"testing"

	"foundry/code"
	"foundry/link"
	"foundry/object"
)

// symbolsAre fails unless those are the Symbols of the objects: "k.f 2 0" is a function, "k.v 1 0" a variable.
func symbolsAre(t *testing.T, what string, l []object.Object, want ...string) {
	t.Helper()
	is(t, what+": Symbols of "+names(l), symbolsTold(link.Symbols(l)), fmt.Sprintf("%d %q", len(want), want))
}

// bare: a function that is not right.
func bare(name string) part {
	return coded(name, code.Fn{})
}

func TestSymbolsOfFewObjects(t *testing.T) {
	symbolsAre(t, "none", nil)
	symbolsAre(t, "an empty list", []object.Object{})
	symbolsAre(t, "in the spare room", all(five(), five())[:0])
	symbolsAre(t, "the zero object", all(object.Object{}))
	symbolsAre(t, "nothing in it", all(obj("m")))
	symbolsAre(t, "a variable", all(obj("m", variable("v", num(1)))), "m.v 1 0")
	symbolsAre(t, "a function", all(obj("m", bare("f"))), "m.f 2 0")
	symbolsAre(t, "both", all(obj("m", bare("f"), variable("v", num(1)))), "m.v 1 0", "m.f 2 0")
	symbolsAre(t, "as they stand", all(obj("m", variable("b", num(1)), bare("z"), variable("a", truth(1)), bare("y"), variable("c", num(1)), bare("x"))),
		"m.b 1 0", "m.a 1 1", "m.c 1 2", "m.z 2 0", "m.y 2 1", "m.x 2 2")
}

func TestSymbolsInEachOrder(t *testing.T) {
	l := all(
		obj("b", variable("v", num(1)), variable("u", num(2)), bare("f")),
		obj("a", bare("f"), bare("e"), variable("v", num(1))),
		obj("B", bare("x")),
		obj("ab", variable("y", num(1))),
		obj("none"),
	)
	for _, order := range orders(l) {
		symbolsAre(t, "five objects", order, "a.v 1 0", "ab.y 1 1", "b.v 1 2", "b.u 1 3", "B.x 2 0", "a.f 2 1", "a.e 2 2", "b.f 2 3")
	}
	for _, order := range orders(l[:3]) {
		symbolsAre(t, "three objects", order, "a.v 1 0", "b.v 1 1", "b.u 1 2", "B.x 2 0", "a.f 2 1", "a.e 2 2", "b.f 2 3")
	}
}

func TestSymbolsOfOneKind(t *testing.T) {
	vars := all(obj("k", variable("v", num(1))), obj("a", variable("v", num(1)), variable("w", num(1))), obj("m"))
	fns := all(obj("k", bare("v")), obj("a", bare("v"), bare("w")), obj("m"))
	for _, order := range orders([]object.Object{vars[0], vars[1], vars[2]}) {
		symbolsAre(t, "no function", order, "a.v 1 0", "a.w 1 1", "k.v 1 2")
	}
	for _, order := range orders(fns) {
		symbolsAre(t, "no variable", order, "a.v 2 0", "a.w 2 1", "k.v 2 2")
	}
	symbolsAre(t, "the one has variables, the other functions", all(vars[0], fns[1]), "k.v 1 0", "a.v 2 0", "a.w 2 1")
}

// Those of one module come in the order in which they are handed in; the sort keeps it, of however many.
func TestSymbolsOfOneModule(t *testing.T) {
	first, second := obj("m", variable("v", num(1)), bare("f")), obj("m", variable("w", num(1)), bare("f"))
	other := obj("a", variable("v", num(1)), bare("f"))
	symbolsAre(t, "the first one first", all(first, second), "m.v 1 0", "m.w 1 1", "m.f 2 0", "m.f 2 1")
	symbolsAre(t, "the second one first", all(second, first), "m.w 1 0", "m.v 1 1", "m.f 2 0", "m.f 2 1")
	symbolsAre(t, "another one between", all(second, other, first), "a.v 1 0", "m.w 1 1", "m.v 1 2", "a.f 2 0", "m.f 2 1", "m.f 2 2")
	symbolsAre(t, "the same one twice", all(first, other, first), "a.v 1 0", "m.v 1 1", "m.v 1 2", "a.f 2 0", "m.f 2 1", "m.f 2 2")
	symbolsAre(t, "a name twice in one", all(obj("m", bare("f"), variable("f", num(1)), bare("f"))), "m.f 1 0", "m.f 2 0", "m.f 2 1")
	x := mixer(18)
	for range 100 {
		var l []object.Object
		for at := range 60 {
			module := pick(&x, []string{"a", "b", "c"})
			l = append(l, obj(module, variable(fmt.Sprint(module, at), num(1)), bare(fmt.Sprint("f", at))))
		}
		isText(t, "many of three modules", symbolsTold(link.Symbols(l)), symbolsTold(modelSymbols(l)))
	}
}

// Of any objects: nothing about them need be right, nor few.
func TestSymbolsOfAnyObjects(t *testing.T) {
	strange := all(
		obj("if", variable("", num(1)), bare("9")), obj("", variable("a.b", truth(7)), bare("")), obj(long(40), bare(long(50))), obj("\xff", bare("\x00")),
		object.Object{Module: "m", Relocs: []object.Reloc{{Fn: -1, At: 9, Kind: 7}}},
	)
	symbolsAre(t, "strange ones", strange, ".a.b 1 0", "if. 1 1", ". 2 0", long(40)+"."+long(50)+" 2 1", "if.9 2 2", "\xff.\x00 2 3")
	var many []object.Object
	var want []string
	for at := range 100 {
		o := obj(fmt.Sprintf("m%03d", at))
		for n := range 70 {
			bare(fmt.Sprint("f", n))(&o)
			want = append(want, fmt.Sprintf("m%03d.f%d 2 %d", at, n, at*70+n))
		}
		many = append(many, o)
	}
	slices.Reverse(many)
	isText(t, "many", symbolsTold(link.Symbols(many)), fmt.Sprintf("%d %q", 7000, want))
	for seed := range uint64(300) {
		x := mixer(seed)
		l := x.near(x.near(shuffled(&x, append(made(seed), made(seed+1000)...))))
		isText(t, fmt.Sprint("seed ", seed), symbolsTold(link.Symbols(l)), symbolsTold(modelSymbols(l)))
	}
}

// P1803: unlike objects' symbols have unlike numbers of their Kind, from 0 on without a gap.
func TestNumbersHaveNoGap(t *testing.T) {
	for seed := range uint64(300) {
		l := made(seed)
		next := [3]int{}
		seen := map[string]int{}
		for _, s := range link.Symbols(l) {
			is(t, "the number", s.N, next[s.Kind])
			is(t, "a function ahead of a variable", s.Kind == object.ToVar && next[object.ToFn] > 0, false)
			next[s.Kind]++
			seen[s.Mod+"."+s.Name]++
		}
		vars, fns := 0, 0
		for _, o := range l {
			vars, fns = vars+len(o.Vars), fns+len(o.Fns)
			for _, name := range object.Defines(o) {
				is(t, o.Module+"."+name, seen[o.Module+"."+name], 1)
			}
		}
		is(t, "how many", fmt.Sprint(next, len(seen)), fmt.Sprint([3]int{0, vars, fns}, vars+fns))
	}
}

// The names' order is that of their bytes, not that of their letters nor of their lengths.
func TestTheOrderOfModules(t *testing.T) {
	modules := []string{"A", "B", "Z", "_", "_a", "a", "a0", "a1", "a10", "a2", "aB", "a_", "aa", "ab", "b", "main", "main0", "maina", "n", "z", "zz"}
	var l []object.Object
	var want []string
	for at, name := range modules {
		l = append(l, obj(name, bare("f"), variable("v", num(1))))
		want = append(want, fmt.Sprintf("%s.f 2 %d", name, at))
	}
	for seed := range uint64(50) {
		x := mixer(seed)
		got := link.Symbols(shuffled(&x, l))
		var text []string
		for _, s := range got[len(modules):] {
			text = append(text, fmt.Sprintf("%s.%s %d %d", s.Mod, s.Name, s.Kind, s.N))
		}
		is(t, "functions", strings.Join(text, ", "), strings.Join(want, ", "))
	}
}
