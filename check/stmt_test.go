package check_test

import (
	"fmt"
	"strings"
	"testing"

	"foundry/api"
	"foundry/check"
)

func TestLet(t *testing.T) {
	eachBody(t, "", []bodyCase{
		{"let x = 1;", api.OK, []int{api.TInt}},
		{"let x = 1.5; let y = true; let z = x < w && y;", api.OK, []int{api.TFloat, api.TBool, api.TBool}},
		{"let x = num(); let y = k.g(x);", api.OK, []int{api.TInt, api.TBool}},
		{"let m = 1;", api.OK, []int{api.TInt}},
		{"let Y = k.Y; let g = k.g(Y);", api.OK, []int{api.TInt, api.TBool}},
		// Its E's error.
		{"let x = nobody;", api.ErrUnknown, nil},
		{"let x = 1 + 1.5;", api.ErrType, nil},
		{"let x = num(1);", api.ErrCount, nil},
		{"let x = x;", api.ErrUnknown, nil},
		{"let v = nobody;", api.ErrUnknown, nil},
		{"let v = num(1);", api.ErrCount, nil},
		// No result.
		{"let x = none();", api.ErrType, nil},
		{"let x = k.h();", api.ErrType, nil},
		{"let v = none();", api.ErrType, nil},
		// A name that is there.
		{"let p = 1;", api.ErrTwice, nil},
		{"let x = 1; let x = 1;", api.ErrTwice, nil},
		{"let x = 1; let x = 2.5;", api.ErrTwice, nil},
		{"let C = 1;", api.ErrTwice, nil},
		{"let v = 1;", api.ErrTwice, nil},
		{"let none = 1;", api.ErrTwice, nil},
		{"let f = 1;", api.ErrTwice, nil},
		{"let k = 1;", api.ErrTwice, nil},
		{"let j = k;", api.ErrType, nil},
	})
	is(t, "a name further down", checked(module(t, "fn f() { let g = 1; } fn g() { }")), wrong(0, api.ErrTwice))
}

func TestSet(t *testing.T) {
	eachBody(t, "", []bodyCase{
		{"p = 1; r = 1.5; t = p < v;", api.OK, nil},
		{"v = p; w = r; q = t;", api.OK, nil},
		{"let x = 1; x = x + 1;", api.OK, []int{api.TInt}},
		{"try { } catch e { e = e + 1; }", api.OK, []int{api.TInt}},
		{"x = 1;", api.ErrUnknown, nil},
		{"m = 1;", api.ErrUnknown, nil},
		{"Y = 1;", api.ErrUnknown, nil},
		{"x = 1 + 1.5;", api.ErrUnknown, nil},
		{"x = num(1);", api.ErrUnknown, nil},
		{"C = 1;", api.ErrType, nil},
		{"none = 1;", api.ErrType, nil},
		{"f = 1;", api.ErrType, nil},
		{"k = 1;", api.ErrType, nil},
		{"C = nobody;", api.ErrType, nil},
		{"k = num(1);", api.ErrType, nil},
		{"v = nobody;", api.ErrUnknown, nil},
		{"v = num(1);", api.ErrCount, nil},
		{"p = C();", api.ErrType, nil},
		{"v = 1.5;", api.ErrType, nil},
		{"w = 1;", api.ErrType, nil},
		{"p = true;", api.ErrType, nil},
		{"v = none();", api.ErrType, nil},
		{"t = none();", api.ErrType, nil},
	})
}

func TestIfAndWhile(t *testing.T) {
	for _, head := range []string{"if", "while"} {
		eachBody(t, "", []bodyCase{
			{head + " t { }", api.OK, nil},
			{head + " v < p && k.g(p) { v = 1; }", api.OK, nil},
			{head + " nobody { }", api.ErrUnknown, nil},
			{head + " num(1) { }", api.ErrCount, nil},
			{head + " 1 { }", api.ErrType, nil},
			{head + " w { }", api.ErrType, nil},
			{head + " none() { }", api.ErrType, nil},
			{head + " 1 { show nobody; }", api.ErrType, nil},
			{head + " nobody { one(); }", api.ErrUnknown, nil},
			{head + " t { show nobody; }", api.ErrUnknown, nil},
			{head + " t { one(); show nobody; }", api.ErrCount, nil},
		})
	}
	eachBody(t, "", []bodyCase{
		{"if t { } else { }", api.OK, nil},
		{"if t { show nobody; } else { one(); }", api.ErrUnknown, nil},
		{"if t { one(); } else { show nobody; }", api.ErrCount, nil},
		{"if t { } else { show nobody; }", api.ErrUnknown, nil},
		{"if 1 { } else { show nobody; }", api.ErrType, nil},
		{"if t { } else { } show nobody;", api.ErrUnknown, nil},
	})
}

func TestReturn(t *testing.T) {
	eachBody(t, "", []bodyCase{
		{"return;", api.OK, nil},
		{"return; return;", api.OK, nil},
		{"if t { return; } else { return; }", api.OK, nil},
		{"return 1;", api.ErrType, nil},
		{"return none();", api.ErrType, nil},
		{"return nobody;", api.ErrType, nil},
		{"return num(1);", api.ErrType, nil},
	})
	eachBody(t, ": int", []bodyCase{
		{"return 1;", api.OK, nil},
		{"return p + v;", api.OK, nil},
		{"return;", api.ErrType, nil},
		{"return nobody;", api.ErrUnknown, nil},
		{"return num(1);", api.ErrCount, nil},
		{"return 1.5;", api.ErrType, nil},
		{"return true;", api.ErrType, nil},
		{"return none();", api.ErrType, nil},
		{"if t { return; } return 1;", api.ErrType, nil},
		{"return 1; return 1.5;", api.ErrType, nil},
		{"return 1; show nobody; return 1;", api.ErrUnknown, nil},
	})
	eachBody(t, ": float", []bodyCase{
		{"return w;", api.OK, nil},
		{"return real();", api.OK, nil},
		{"return v;", api.ErrType, nil},
	})
	eachBody(t, ": bool", []bodyCase{
		{"return two(1, 1.5);", api.OK, nil},
		{"return f(1, 1.5, true);", api.OK, nil},
		{"return 0;", api.ErrType, nil},
	})
}

func TestShowAndFail(t *testing.T) {
	eachBody(t, "", []bodyCase{
		{"show 1;", api.OK, nil},
		{"show w;", api.OK, nil},
		{"show t;", api.OK, nil},
		{"show num() + v;", api.OK, nil},
		{"show none();", api.ErrType, nil},
		{"show k.h();", api.ErrType, nil},
		{"show nobody;", api.ErrUnknown, nil},
		{"show one(1.5);", api.ErrType, nil},
		{"show one();", api.ErrCount, nil},
		{"fail 1;", api.OK, nil},
		{"fail p + num();", api.OK, nil},
		{"fail 1.5;", api.ErrType, nil},
		{"fail t;", api.ErrType, nil},
		{"fail none();", api.ErrType, nil},
		{"fail nobody;", api.ErrUnknown, nil},
		{"fail num(1);", api.ErrCount, nil},
	})
}

func TestTry(t *testing.T) {
	eachBody(t, "", []bodyCase{
		{"try { } catch e { }", api.OK, []int{api.TInt}},
		{"try { none(); } catch e { show e; v = e; }", api.OK, []int{api.TInt}},
		{"try { show nobody; } catch e { }", api.ErrUnknown, nil},
		{"try { show nobody; } catch v { one(); }", api.ErrUnknown, nil},
		{"try { one(); } catch v { show nobody; }", api.ErrCount, nil},
		{"try { } catch v { show nobody; }", api.ErrTwice, nil},
		{"try { } catch p { }", api.ErrTwice, nil},
		{"try { } catch C { }", api.ErrTwice, nil},
		{"try { } catch none { }", api.ErrTwice, nil},
		{"try { } catch f { }", api.ErrTwice, nil},
		{"try { } catch k { }", api.ErrTwice, nil},
		{"let x = 1.5; try { } catch x { }", api.ErrTwice, nil},
		{"try { } catch e { let e = 1; }", api.ErrTwice, nil},
		{"try { } catch e { if t { let e = 1; } }", api.ErrTwice, nil},
		{"try { } catch e { try { } catch e { } }", api.ErrTwice, nil},
		{"try { } catch e { show nobody; }", api.ErrUnknown, nil},
		{"try { } catch e { one(); }", api.ErrCount, nil},
		{"try { } catch e { w = e; }", api.ErrType, nil},
		{"try { } catch e { } show nobody;", api.ErrUnknown, nil},
	})
}

func TestDo(t *testing.T) {
	eachBody(t, "", []bodyCase{
		{"none(); num(); two(1, 1.5); f(1, 1.5, true);", api.OK, nil},
		{"k.h(); k.n(); j.g(); k.g(p);", api.OK, nil},
		{"nobody();", api.ErrUnknown, nil},
		{"k.nobody();", api.ErrUnknown, nil},
		{"nobody.g();", api.ErrUnknown, nil},
		{"v();", api.ErrType, nil},
		{"p();", api.ErrType, nil},
		{"k();", api.ErrType, nil},
		{"k.Y();", api.ErrType, nil},
		{"one();", api.ErrCount, nil},
		{"k.h(1);", api.ErrCount, nil},
		{"one(none());", api.ErrType, nil},
		{"k.g(w);", api.ErrType, nil},
	})
}

// Statement by statement, whatever comes behind it.
func TestTheFirstStatementThatIsWrong(t *testing.T) {
	statements := []struct {
		text string
		code api.Errno
	}{
		{"show nobody;", api.ErrUnknown}, {"one();", api.ErrCount}, {"fail 1.5;", api.ErrType}, {"let v = 1;", api.ErrTwice},
	}
	for _, a := range statements {
		for _, b := range statements {
			eachBody(t, "", []bodyCase{
				{a.text + b.text, a.code, nil},
				{"none(); " + a.text + " none(); " + b.text, a.code, nil},
				{"if t {" + a.text + "}" + b.text, a.code, nil},
				{"while t { if t { none(); } else {" + a.text + "} }" + b.text, a.code, nil},
				{"try {" + a.text + "} catch e {" + b.text + "}", a.code, nil},
				{"try { } catch e {" + a.text + "}" + b.text, a.code, nil},
			})
			// ErrReturn comes behind them.
			eachBody(t, ": int", []bodyCase{{a.text + b.text, a.code, nil}})
		}
	}
}

// Local names: which are visible.
func TestLocalNames(t *testing.T) {
	eachBody(t, "", []bodyCase{
		// Further up in the block, and in blocks in it.
		{"let x = 1; show x;", api.OK, []int{1}},
		{"show x; let x = 1;", api.ErrUnknown, nil},
		{"x = 2; let x = 1;", api.ErrUnknown, nil},
		{"let x = 1; if t { show x; } else { show x; } while t { x = 2; } try { show x; } catch e { show x + e; }", api.OK, []int{1, 1}},
		{"let x = 1; if t { if t { while t { show x; } } }", api.OK, []int{1}},
		{"if t { show x; } let x = 1;", api.ErrUnknown, nil},
		{"let x = 1; let y = x; let z = y + x;", api.OK, []int{1, 1, 1}},
		// No longer, behind the block.
		{"if t { let x = 1; } show x;", api.ErrUnknown, nil},
		{"if t { let x = 1; } else { show x; }", api.ErrUnknown, nil},
		{"if t { } else { let x = 1; } show x;", api.ErrUnknown, nil},
		{"while t { let x = 1; } show x;", api.ErrUnknown, nil},
		{"while t { let x = 1; } x = 1;", api.ErrUnknown, nil},
		{"if t { let x = 1; } x();", api.ErrUnknown, nil},
		{"while x { let x = true; }", api.ErrUnknown, nil},
		{"if t { let x = 1; if t { let y = x; } show y; }", api.ErrUnknown, nil},
		{"try { let x = 1; } catch e { show x; }", api.ErrUnknown, nil},
		{"try { let x = 1; } catch e { } show x;", api.ErrUnknown, nil},
		{"try { } catch e { let x = 1; } show x;", api.ErrUnknown, nil},
		// The name that catch gives: in the second block alone.
		{"try { show e; } catch e { }", api.ErrUnknown, nil},
		{"try { } catch e { } show e;", api.ErrUnknown, nil},
		{"try { } catch e { } e = 1;", api.ErrUnknown, nil},
		{"try { } catch e { if t { show e; } }", api.OK, []int{1}},
		{"try { try { } catch d { show e; } } catch e { }", api.ErrUnknown, nil},
		{"try { } catch e { try { show e; } catch d { show d + e; } show e; }", api.OK, []int{1, 1}},
		// A name anew, where it is no longer visible.
		{"if t { let x = 1; } let x = 1.5; w = x;", api.OK, []int{1, 2}},
		{"if t { let x = 1; } else { let x = 1.5; w = x; }", api.OK, []int{1, 2}},
		{"if t { let x = 1; } if t { let x = true; q = x; } let x = 1.5;", api.OK, []int{1, 3, 2}},
		{"while t { let x = 1.5; } while t { let x = 1; v = x; }", api.OK, []int{2, 1}},
		{"try { let e = 1.5; } catch e { v = e; }", api.OK, []int{2, 1}},
		{"try { let x = 1.5; } catch e { let x = true; } let e = w; let x = e;", api.OK, []int{2, 1, 3, 2, 2}},
		{"try { } catch e { } try { } catch e { }", api.OK, []int{1, 1}},
		{"try { try { } catch e { } } catch e { }", api.OK, []int{1, 1}},
		{"if t { let x = 1; } let x = 1.5; v = x;", api.ErrType, nil},
		// But not where it is.
		{"let x = 1; if t { let x = 1; }", api.ErrTwice, nil},
		{"let x = 1; while t { if t { let x = 1.5; } }", api.ErrTwice, nil},
		{"let x = 1; try { let x = 1; } catch e { }", api.ErrTwice, nil},
		{"while t { let p = 1; }", api.ErrTwice, nil},
		{"if t { let x = 1; } let x = 1; if t { let x = 1; }", api.ErrTwice, nil},
	})
	// Those of one function are none of another's.
	is(t, "another function's", checked(module(t, "fn g(a: int) { let x = 1; } fn f() { show a; }")), wrong(1, api.ErrUnknown))
	is(t, "another function's let", checked(module(t, "fn g(a: int) { let x = 1; } fn f() { show x; }")), wrong(1, api.ErrUnknown))
	info, _, code := check.Check(module(t, "fn g(a: int) { let x = 1; } fn f(x: float) { let a = x; }"), nil)
	is(t, "names of two functions", slotsKey(info.Slots), "[[1 1] [2 2]]")
	is(t, "names of two functions", code, api.OK)
}

// Slots: parameters, then let and catch in the order of the text.
func TestSlots(t *testing.T) {
	eachBody(t, "", []bodyCase{
		{"", api.OK, nil},
		{"let a = 1; let b = 1.5; let c = true;", api.OK, []int{1, 2, 3}},
		{"try { let a = 1.5; } catch e { let b = true; } let c = 1.5;", api.OK, []int{2, 1, 3, 2}},
		{"try { try { let a = true; } catch d { let b = 1.5; } } catch e { let c = true; }", api.OK, []int{3, 1, 2, 1, 3}},
		{"if t { let a = 1.5; } else { let b = true; } let c = 1;", api.OK, []int{2, 3, 1}},
		{"while t { let a = t; while a { let b = w; } let c = p; } let d = q;", api.OK, []int{3, 2, 1, 3}},
		{"return; let a = 1.5;", api.OK, []int{2}},
	})
}

// lets: a body with n of them, each in its own way.
func lets(n int) string {
	var b strings.Builder
	for at := range n {
		switch at % 3 {
		case 0:
			fmt.Fprintf(&b, "let x%d = %d; ", at, at)
		case 1:
			b.WriteString("if t { let y = 1.5; } ")
		case 2:
			b.WriteString("try { } catch e { } ")
		}
	}
	return b.String()
}

func TestAsManySlotsAsThereMayBe(t *testing.T) {
	most := api.MaxLocals - 3 // f has three parameters
	full := lets(most)
	info, _, code := check.Check(inF(t, "", full), kAndJ())
	is(t, "MaxLocals", code, api.OK)
	is(t, "slots", len(info.Slots[len(info.Slots)-1]), api.MaxLocals)
	eachBody(t, "", []bodyCase{
		{full + "let more = 1;", api.ErrBig, nil},
		{full + "if t { let more = 1; }", api.ErrBig, nil},
		{full + "try { } catch more { }", api.ErrBig, nil},
		{full + "try { } catch more { show nobody; }", api.ErrBig, nil},
		{full + "try { show nobody; } catch more { }", api.ErrUnknown, nil},
		// What comes ahead of it.
		{full + "let more = nobody;", api.ErrUnknown, nil},
		{full + "let more = none();", api.ErrType, nil},
		{full + "let v = 1;", api.ErrTwice, nil},
		{full + "let x0 = 1;", api.ErrTwice, nil},
		{full + "try { } catch p { }", api.ErrTwice, nil},
		// And behind it.
		{full + "let more = 1; show nobody;", api.ErrBig, nil},
		{lets(most-1) + "try { let more = 1; } catch e { }", api.ErrBig, nil},
		{lets(most+5) + "show nobody;", api.ErrBig, nil},
	})
	eachBody(t, ": int", []bodyCase{{full + "let more = 1;", api.ErrBig, nil}, {full, api.ErrReturn, nil}})
	// Each function has as many.
	m := inF(t, "", full)
	again := m.Decls[outerCount]
	again.Name = "again"
	m.Decls = append(m.Decls, again)
	is(t, "two functions", codeOf(m, kAndJ()...), api.OK)
	bare := module(t, "fn f() { }")
	for at := range api.MaxLocals {
		bare.Decls[0].Body = append(bare.Decls[0].Body, block(t, fmt.Sprintf("let x%d = 1.5;", at))...)
	}
	info, _, code = check.Check(bare, nil)
	is(t, "64 of let", fmt.Sprint(info.Slots, int(code)), fmt.Sprint([][]int{times(api.MaxLocals, api.TFloat)}, 0))
	bare.Decls[0].Body = append(bare.Decls[0].Body, block(t, "let more = 1;")...)
	is(t, "65 of let", checked(bare), wrong(0, api.ErrBig))
}

// Blocks as deep as there may be, and bodies as long as one likes.
func TestDeepAndLongBodies(t *testing.T) {
	text, names := "show a0;", "show a0"
	for at := range api.MaxDepth - 1 {
		names += fmt.Sprintf(" + a%d", at)
		text = fmt.Sprintf("let a%d = 1; if true { %s }", api.MaxDepth-2-at, text)
	}
	m := module(t, "fn f() {"+text+"}")
	info, _, code := check.Check(m, nil)
	is(t, "deep", fmt.Sprint(len(info.Slots[0]), int(code)), fmt.Sprint(api.MaxDepth-1, 0))
	is(t, "deep, all names", codeOf(module(t, "fn f() {"+strings.Replace(text, "show a0;", names+";", 1)+"}")), api.OK)
	is(t, "behind all of them", checked(module(t, "fn f() {"+text+" show a1; }")), wrong(0, api.ErrUnknown))

	long := module(t, "fn f(): int { }")
	for range 100000 {
		long.Decls[0].Body = append(long.Decls[0].Body, block(t, "if true { show 1; }")[0])
	}
	is(t, "long", checked(long), wrong(0, api.ErrReturn))
	long.Decls[0].Body = append(long.Decls[0].Body, block(t, "return 1;")[0])
	is(t, "long, with a return", codeOf(long), api.OK)
}

// Blocks that end, and blocks that do not: by Ends, and by ErrReturn.
func TestEnds(t *testing.T) {
	for body, ends := range map[string]bool{
		"":                               false,
		"return 1;":                      true,
		"fail 1;":                        true,
		"show 1;":                        false,
		"let x = 1;":                     false,
		"v = 1;":                         false,
		"none();":                        false,
		"while true { return 1; }":       false,
		"if true { return 1; }":          false,
		"if true { } else { }":           false,
		"if true { return 1; } else { }": false,
		"if true { } else { return 1; }": false,
		"if true { return 1; } else { return 2; }":         true,
		"if true { fail 1; } else { return 2; }":           true,
		"if true { return 1; } else { show 2; }":           false,
		"try { return 1; } catch e { }":                    false,
		"try { } catch e { return 1; }":                    false,
		"try { } catch e { }":                              false,
		"try { return 1; } catch e { return e; }":          true,
		"try { fail 1; } catch e { fail e; }":              true,
		"try { show 1; } catch e { return e; }":            false,
		"return 1; show 1;":                                false,
		"fail 1; none();":                                  false,
		"show 1; return 1;":                                true,
		"return 1; return 2;":                              true,
		"if true { return 1; } return 2;":                  true,
		"if true { return 1; } else { return 2; } show 1;": false,
		"if true { if t { return 1; } else { fail 2; } } else { try { return 1; } catch e { fail 1; } }":            true,
		"if true { if t { return 1; } else { show 2; } } else { try { return 1; } catch e { fail 1; } }":            false,
		"if true { if t { return 1; } else { fail 2; } } else { try { return 1; } catch e { show 1; } }":            false,
		"try { if t { return 1; } else { return 2; } } catch e { if t { return 1; } else { return 2; } }":           true,
		"try { if t { return 1; } else { return 2; } } catch e { while t { return 1; } }":                           false,
		"if true { show 1; return 1; } else { while true { } return 2; }":                                           true,
		"try { try { return 1; } catch d { return 2; } } catch e { try { return 1; } catch d { fail 2; } }":         true,
		"try { try { return 1; } catch d { return 2; } none(); } catch e { try { return 1; } catch d { fail 2; } }": false,
		"while true { } return 1;": true,
	} {
		is(t, "Ends of "+body, check.Ends(block(t, body)), ends)
		want := fails(api.ErrReturn)
		if ends {
			info, _, _ := check.Check(inF(t, ": int", body), kAndJ())
			want = inFKey(info.Slots[len(info.Slots)-1][3:]...)
		}
		is(t, body, slotsIn(t, ": int", body), want)
	}
	// Without a result no function has to end.
	eachBody(t, "", []bodyCase{{"show 1;", api.OK, nil}, {"fail 1;", api.OK, nil}})
}

// Ends of statements that no module has: their kinds, Body and Else alone count.
func TestEndsOfAnyStatements(t *testing.T) {
	stmt := func(kind int, body, other []api.Stmt) api.Stmt { return api.Stmt{Kind: kind, Body: body, Else: other} }
	end, none := []api.Stmt{{Kind: api.SReturn}}, []api.Stmt{{Kind: api.SShow}}
	is(t, "nil", check.Ends(nil), false)
	is(t, "empty", check.Ends([]api.Stmt{}), false)
	is(t, "in the spare room", check.Ends(end[:0]), false)
	for kind := -3; kind < 300; kind++ {
		one := kind == api.SReturn || kind == api.SFail
		both := kind == api.SIf || kind == api.STry
		is(t, fmt.Sprint("kind ", kind), check.Ends([]api.Stmt{stmt(kind, nil, nil)}), one)
		is(t, fmt.Sprint("kind ", kind, " of both"), check.Ends([]api.Stmt{stmt(kind, end, end)}), one || both)
		is(t, fmt.Sprint("kind ", kind, " of the first"), check.Ends([]api.Stmt{stmt(kind, end, none)}), one)
		is(t, fmt.Sprint("kind ", kind, " of the second"), check.Ends([]api.Stmt{stmt(kind, none, end)}), one)
		is(t, fmt.Sprint("kind ", kind, " ahead"), check.Ends([]api.Stmt{stmt(kind, end, end), none[0]}), false)
		is(t, fmt.Sprint("kind ", kind, " behind"), check.Ends([]api.Stmt{none[0], stmt(kind, nil, nil)}), one)
	}
	for _, kind := range []int{-1 << 63, 1<<63 - 1, 1<<32 + api.SReturn, -api.SReturn, 256 + api.SFail} {
		is(t, fmt.Sprint("kind ", kind), check.Ends([]api.Stmt{stmt(kind, end, end)}), false)
	}
	deep := end
	for at := range 60000 {
		deep = []api.Stmt{stmt([]int{api.SIf, api.STry}[at%2], deep, end)}
	}
	is(t, "deep", check.Ends(deep), true)
	odd := api.Stmt{Kind: api.SReturn, Name: "9", E: times(3, api.Expr{Kind: -1}), Body: none, Else: none}
	is(t, "a return that is not right", check.Ends([]api.Stmt{odd}), true)
}

func TestEndsIsTheModels(t *testing.T) {
	x := mixer(1205)
	count := map[bool]int{}
	for range 20000 {
		l := x.anyStmts(5)
		got := check.Ends(l)
		is(t, fmt.Sprint(l), got, modelEnds(l))
		count[got]++
	}
	if count[true] < 1000 || count[false] < 1000 {
		t.Errorf("%v: too few of one", count)
	}
}
