package depgraph_test

import (
	"fmt"
	"testing"

	"foundry/depgraph"
)

// toldNothing fails unless all looks but Order and Levels tell nothing.
func toldNothing(t *testing.T, g *depgraph.Graph, name string) {
	t.Helper()
	is(t, "Names", len(g.Names()), 0)
	is(t, "Imports of "+name, len(g.Imports(name)), 0)
	is(t, "Users of "+name, len(g.Users(name)), 0)
	is(t, "Missing", toldMissing(g), `"" "" false`)
	is(t, "Ring", len(g.Ring()), 0)
	is(t, "Under of "+name, len(g.Under(name)), 0)
	is(t, "Over of "+name, len(g.Over([]string{name})), 0)
	is(t, "Over of "+name+" and another", len(g.Over([]string{name, "b", name})), 0)
	is(t, "Over of nothing", len(g.Over(nil)), 0)
}

// P1102, P1103, P1104, P1107, and ErrNil of P1105 and P1106.
func TestNilGraph(t *testing.T) {
	var g *depgraph.Graph
	for _, name := range []string{"a", "", "9", long(33)} {
		toldNothing(t, g, name)
	}
	is(t, "Order", toldOrder(g), "|2")
	is(t, "Levels", toldLevels(g), "|2")
}

// P1102.
func TestNames(t *testing.T) {
	for text, want := range map[string]string{
		"a":                    "a",
		"c b a":                "a b c",
		"b:z a:y,x":            "a b",
		"b a0 _ Z a aB B aa A": "A B Z _ a a0 aB aa b",
		"a:a":                  "a",
		"n10 n9 n1 n":          "n n1 n10 n9",
	} {
		is(t, text, told(graph(t, text).Names()), want)
	}
}

func TestImports(t *testing.T) {
	g := graph(t, "a:z,b,B,_,c b:a c d:d e:y")
	for name, want := range map[string]string{
		"a": "B _ b c z", "b": "a", "c": "", "d": "d", "e": "y",
		"z": "", "B": "", "y": "", "none": "", "": "", "9": "", "A": "",
	} {
		is(t, "Imports of "+name, told(g.Imports(name)), want)
	}
}

func TestUsers(t *testing.T) {
	g := graph(t, "d:a,z c:z,b b:a a:a e Z:z")
	for name, want := range map[string]string{
		"a": "a b d", "b": "c", "c": "", "d": "", "e": "", "Z": "",
		"z": "Z c d", "y": "", "none": "", "": "", "9": "", "A": "",
	} {
		is(t, "Users of "+name, told(g.Users(name)), want)
	}
}

// Only directly: what stands behind another one is no user.
func TestUsersAreDirect(t *testing.T) {
	g := graph(t, "a:b b:c c:d d")
	is(t, "Users of d", told(g.Users("d")), "c")
	is(t, "Imports of a", told(g.Imports("a")), "b")
}

// P1103.
func TestMissing(t *testing.T) {
	for text, want := range map[string]string{
		"":                    `"" "" false`,
		"a":                   `"" "" false`,
		"a:b b":               `"" "" false`,
		"a:a":                 `"" "" false`,
		"a:b b:a":             `"" "" false`,
		"a:z":                 `"a" "z" true`,
		"a:b b:z":             `"b" "z" true`,
		"b:z a:b":             `"b" "z" true`,
		"c:x b:z,y a":         `"b" "y" true`,
		"c:A b:z":             `"b" "z" true`,
		"b:z,a,y,b a:b":       `"b" "y" true`,
		"a:a,Z":               `"a" "Z" true`,
		"a:aa aa:_,B":         `"aa" "B" true`,
		"B:q a:p":             `"B" "q" true`,
		"a:b,c b:c,a c:a,b,n": `"c" "n" true`,
	} {
		is(t, fmt.Sprintf("Missing of %q", text), toldMissing(graph(t, text)), want)
	}
}
