package depgraph_test

import (
	"fmt"
	"testing"

	"foundry/api"
	"foundry/depgraph"
)

// P1104.
func TestRing(t *testing.T) {
	for text, want := range map[string]string{
		"":                                  "",
		"a":                                 "",
		"a:b b:c c":                         "",
		"a:b b:z":                           "",
		"a:z b:z":                           "",
		"a:a":                               "a",
		"a:b b:b":                           "b",
		"a:b b:a":                           "a b",
		"b:a a:b":                           "a b",
		"c:b b:a a:c":                       "a c b",
		"a:b b:c c:d d:b":                   "b c d",
		"a:c c:d d:c":                       "c d",
		"c:c b:d d:b":                       "b d",
		"b:b a:c c:a":                       "a c",
		"a:b b:a,b":                         "a b",
		"a:a,b b:a":                         "a",
		"a:b,c b:c c:a":                     "a c",
		"a:b,d b:c c:a d:a":                 "a d",
		"a:c,d c:a d:a":                     "a c",
		"a:d,c c:b,e d:b b:a e:a":           "a c b",
		"a:b,c b:e c:d e:a d:a":             "a b e",
		"A:b,c b:y,e c:d,B B:A e:A d:A y:A": "A b e",
		"A:B,b B:z z:A b:c c:A":             "A B z",
		"a:B,b B:z z:a b:c c:a":             "B z a",
		"a:b,c b:f f:h h:a c:g g:a":         "a c g",
		"a:b b:c,d c:e d:e e:a":             "a b c e",
		"a:z,b b:a,z":                       "a b",
	} {
		is(t, fmt.Sprintf("Ring of %q", text), told(graph(t, text).Ring()), want)
	}
}

// Of paths to one node the least one goes on, though another one could come first by the node it was left from.
func TestRingTakesTheLeastOfThoseOfOneLength(t *testing.T) {
	g := graph(t, "a:m,b b:x,y m:c x:p y:n c:a p:a n:a")
	is(t, "Ring", told(g.Ring()), "a m c")
	g = graph(t, "a:m,b b:x,y m:c x:p y:n c:d d:a p:a n:a")
	is(t, "Ring", told(g.Ring()), "a b x p")
	g = graph(t, "a:b,c b:z c:d z:e d:e e:a")
	is(t, "Ring", told(g.Ring()), "a b z e")
}

// A ring as long as a project can be.
func TestRingOfAllNodes(t *testing.T) {
	var l []depgraph.Node
	names := many("n", 32)
	for at, name := range names {
		l = append(l, node(name, names[(at+1)%32]))
	}
	is(t, "Ring", told(made(t, l).Ring()), told(names))
	is(t, "Order", toldOrder(made(t, l)), fmt.Sprint("|", int(api.ErrCycle)))
	is(t, "Under", told(made(t, l).Under(names[7])), told(names))
	is(t, "Over", told(made(t, l).Over(names[9:10])), told(names))
	l[31].Imports = nil
	is(t, "no Ring", told(made(t, l).Ring()), "")
	levels, code := made(t, l).Levels()
	is(t, "Levels' error", code, api.OK)
	is(t, "Levels", len(levels), 32)
}

// As many imports as there may be: each of 32 imports 16 others, next to it.
func TestGraphsThatAreFull(t *testing.T) {
	names := many("n", 32)
	var ring, down []depgraph.Node
	for at, name := range names {
		r, d := node(name), node(name)
		for k := 1; k <= 16; k++ {
			r.Imports = append(r.Imports, names[(at+k)%32])
			if at+k < 32 {
				d.Imports = append(d.Imports, names[at+k])
			}
		}
		ring, down = append(ring, r), append(down, d)
	}
	is(t, "Ring", told(made(t, ring).Ring()), told([]string{names[0], names[16]}))
	is(t, "Under", told(made(t, ring).Under(names[5])), told(names))
	is(t, "no Ring", told(made(t, down).Ring()), "")
	order, code := made(t, down).Order()
	is(t, "Order's error", code, api.OK)
	is(t, "Order's first", order[0], names[31])
	is(t, "Order's last", order[31], names[0])
}

// P1105.
func TestOrder(t *testing.T) {
	for text, want := range map[string]string{
		"":                      "|0",
		"a":                     "a|0",
		"c b a":                 "a b c|0",
		"a:b,c b:c c":           "c b a|0",
		"a:z z b c":             "b c z a|0",
		"a:z z:y y b:a":         "y z a b|0",
		"d b:d c a:b":           "c d b a|0",
		"a:c b:d c d":           "c a d b|0",
		"_ a Z:a B:_":           "_ B a Z|0",
		"e:a,b,c,d d:a c:d b a": "a b d c e|0",
		"a:b":                   "|31",
		"a:a":                   "|32",
		"a:b b:a":               "|32",
		"a:a,z":                 "|31",
		"a:b b:a c:z":           "|31",
		"c:c b a:z":             "|31",
		"a b c:d d:c":           "|32",
	} {
		is(t, fmt.Sprintf("Order of %q", text), toldOrder(graph(t, text)), want)
	}
}

// P1106.
func TestLevels(t *testing.T) {
	for text, want := range map[string]string{
		"":                    "|0",
		"a":                   "(a)|0",
		"c b a":               "(a b c)|0",
		"a:b,c b:c c":         "(c) (b) (a)|0",
		"a:b,c b c":           "(b c) (a)|0",
		"a:b b:c c d:c e:b,c": "(c) (b d) (a e)|0",
		"a:z,b b:c c z":       "(c z) (b) (a)|0",
		"e:d,a d:c c:b b a":   "(a b) (c) (d) (e)|0",
		"_ Z:_ a B:Z A:_":     "(_ a) (A Z) (B)|0",
		"b:a a c:a d:b,c":     "(a) (b c) (d)|0",
		"a:b":                 "|31",
		"a:a":                 "|32",
		"a:b b:a c":           "|32",
		"a:b b:a c:z":         "|31",
	} {
		is(t, fmt.Sprintf("Levels of %q", text), toldLevels(graph(t, text)), want)
	}
}

// P1107.
func TestUnder(t *testing.T) {
	g := graph(t, "a:b,z b:c c:b,y d:d e f:e")
	for name, want := range map[string]string{
		"a": "b c y z", "b": "b c y", "c": "b c y", "d": "d", "e": "", "f": "e",
		"z": "", "y": "", "none": "", "": "", "9": "",
	} {
		is(t, "Under of "+name, told(g.Under(name)), want)
	}
}

func TestOver(t *testing.T) {
	g := graph(t, "a:b,z b:c c:b,y d:d e f:e")
	for _, c := range []struct {
		names []string
		want  string
	}{
		{nil, ""}, {[]string{}, ""},
		{[]string{"a"}, "a"}, {[]string{"b"}, "a b c"}, {[]string{"c"}, "a b c"}, {[]string{"d"}, "d"}, {[]string{"e"}, "e f"}, {[]string{"f"}, "f"},
		{[]string{"z"}, "a"}, {[]string{"y"}, "a b c"}, {[]string{"none"}, ""}, {[]string{""}, ""}, {[]string{"9", "while"}, ""},
		{[]string{"e", "a"}, "a e f"}, {[]string{"a", "e"}, "a e f"}, {[]string{"z", "d"}, "a d"}, {[]string{"none", "f", ""}, "f"},
		{[]string{"e", "e"}, "e f"}, {[]string{"z", "a", "z", "a"}, "a"}, {[]string{"y", "y"}, "a b c"},
		{[]string{"f", "e", "d", "c", "b", "a", "z", "y"}, "a b c d e f"},
	} {
		is(t, fmt.Sprintf("Over of %q", c.names), told(g.Over(c.names)), c.want)
	}
}

// A long way to go, against the order of the names and with it.
func TestUnderAndOverThroughManyOthers(t *testing.T) {
	names := many("n", 32)
	var up, down []depgraph.Node
	for at, name := range names {
		u, d := node(name), node(name)
		if at < 31 {
			u.Imports = names[at+1 : at+2]
		}
		if at > 0 {
			d.Imports = names[at-1 : at]
		}
		up, down = append(up, u), append(down, d)
	}
	is(t, "Under, up", told(made(t, up).Under(names[0])), told(names[1:]))
	is(t, "Over, up", told(made(t, up).Over(names[31:])), told(names))
	is(t, "Under, down", told(made(t, down).Under(names[31])), told(names[:31]))
	is(t, "Over, down", told(made(t, down).Over(names[:1])), told(names))
}

// What is handed in to Over is as it was, however many names that is.
func TestOverLeavesWhatIsHandedIn(t *testing.T) {
	g := graph(t, "a:b b:c c")
	l := spared([]string{"c", "none", "b", "c"}, "spare")
	key := fmt.Sprintf("%q", l[:cap(l)])
	is(t, "Over", told(g.Over(l)), "a b c")
	is(t, "handed in", fmt.Sprintf("%q", l[:cap(l)]), key)
	is(t, "Over of many", told(g.Over(append(many("x", 100000), "b"))), "a b")
}

// The chapter's examples.
func TestExamples(t *testing.T) {
	g := graph(t, "a:b,c b:c c")
	is(t, "Order", toldOrder(g), "c b a|0")
	is(t, "Levels", toldLevels(g), "(c) (b) (a)|0")
	is(t, "Users", told(g.Users("c")), "a b")
	is(t, "Under", told(g.Under("a")), "b c")
	is(t, "Over", told(g.Over([]string{"c"})), "a b c")

	g = graph(t, "a:b,c b:c c:a")
	is(t, "Ring", told(g.Ring()), "a c")
	is(t, "Order", toldOrder(g), fmt.Sprint("|", int(api.ErrCycle)))
	is(t, "Levels", toldLevels(g), fmt.Sprint("|", int(api.ErrCycle)))

	g = graph(t, "a:b,c b:c,z c")
	is(t, "Missing", toldMissing(g), `"b" "z" true`)
	is(t, "Over", told(g.Over([]string{"z"})), "a b")
	is(t, "Order", toldOrder(g), fmt.Sprint("|", int(api.ErrImport)))
	is(t, "Levels", toldLevels(g), fmt.Sprint("|", int(api.ErrImport)))
}
