package gen_test

import (
	"testing"

	"foundry/api"
)

func TestNoStatement(t *testing.T) {
	eachBody(t, "", []bodyCase{{"", "return"}})
}

func TestLetAndSet(t *testing.T) {
	eachBody(t, "", []bodyCase{
		{"let x = 1;", "push 1; put 3; return"},
		{"let x = 1; let y = x; let z = r;", "push 1; put 3; get 3; put 4; get 1; put 5; return"},
		{"let x = p + v;", "get 0; load 0 @m.v; bin +; put 3; return"},
		{"p = 1;", "push 1; put 0; return"},
		{"t = q;", "load 0 @m.q; put 2; return"},
		{"v = 1;", "push 1; store 0 @m.v; return"},
		{"w = w * r;", "load 0 @m.w; get 1; bin *; store 0 @m.w; return"},
		{"let x = 1; x = x + 1; v = x;", "push 1; put 3; get 3; push 1; bin +; put 3; get 3; store 0 @m.v; return"},
		{"q = t && q;", "get 2; unless 4; load 0 @m.q; jump 5; push false; store 0 @m.q; return"},
	})
}

// Each let and each catch has a new slot, though the name of another block's is the same.
func TestSlotsOfBlocksBesideEachOther(t *testing.T) {
	eachBody(t, "", []bodyCase{
		{"if t { let x = 1; show x; } else { let x = 2.5; show x; } let x = true; show x;",
			"get 2; unless 7; push 1; put 3; get 3; show; jump 11; push 0x1.4p+1; put 4; get 4; show; push true; put 5; get 5; show; return"},
		{"while t { let x = 1; x = 2; } while t { let x = 3; x = 4; }",
			"get 2; unless 7; push 1; put 3; push 2; put 3; jump 0; get 2; unless 14; push 3; put 4; push 4; put 4; jump 7; return"},
		{"try { let x = 1; show x; } catch x { show x; let y = x; } let y = 2; show y;",
			"try 7; push 1; put 3; get 3; show; untry; jump 12; put 4; get 4; show; get 4; put 5; push 2; put 6; get 6; show; return"},
		{"try { } catch e { show e; } try { } catch e { show e; }",
			"try 3; untry; jump 6; put 3; get 3; show; try 9; untry; jump 12; put 4; get 4; show; return"},
		{"if t { if q { let x = 1; } let x = 2; show x; } let x = 3; show x;",
			"get 2; unless 10; load 0 @m.q; unless 6; push 1; put 3; push 2; put 4; get 4; show; push 3; put 5; get 5; show; return"},
		// A name of an outer block is seen in the inner ones, behind them too.
		{"let x = 1; if t { x = 2; let y = x; } x = 3;",
			"push 1; put 3; get 2; unless 8; push 2; put 3; get 3; put 4; push 3; put 3; return"},
	})
	// What only one of two blocks names is a variable in the other one.
	m := module(t, "var a: int = 1; fn f(b: bool) { if b { a = 2; } }")
	is(t, "a variable in a block", listing(objectOf(t, m), "f"), "get 0; unless 4; push 2; store 0 @m.a; return")
}

// The slots of one function begin anew, whatever another one has.
func TestSlotsOfFunctionsBesideEachOther(t *testing.T) {
	m := module(t, "fn f(a: int) { let b = 1; let c = 2; show c; } fn g(c: int, b: int) { let a = 3; show a; show b; } fn h() { let b = 4; show b; }")
	o := objectOf(t, m)
	is(t, "f", listing(o, "f"), "push 1; put 1; push 2; put 2; get 2; show; return")
	is(t, "g", listing(o, "g"), "push 3; put 2; get 2; show; get 1; show; return")
	is(t, "h", listing(o, "h"), "push 4; put 0; get 0; show; return")
}

func TestIf(t *testing.T) {
	eachBody(t, "", []bodyCase{
		{"if t { show 1; }", "get 2; unless 4; push 1; show; return"},
		{"if t { show 1; } else { show 2; }", "get 2; unless 5; push 1; show; jump 7; push 2; show; return"},
		{"if t { show 1; } show 3;", "get 2; unless 4; push 1; show; push 3; show; return"},
		{"if t { show 1; } else { show 2; } show 3;", "get 2; unless 5; push 1; show; jump 7; push 2; show; push 3; show; return"},
		// Jumps over nothing.
		{"if t { }", "get 2; unless 2; return"},
		{"if t { } else { }", "get 2; unless 2; return"},
		{"if t { } else { show 2; }", "get 2; unless 3; jump 5; push 2; show; return"},
		{"if t { show 1; } else { }", "get 2; unless 4; push 1; show; return"},
		{"if t { if q { } }", "get 2; unless 4; load 0 @m.q; unless 4; return"},
		{"if t { } if q { } else { }", "get 2; unless 2; load 0 @m.q; unless 4; return"},
		// Within one another.
		{"if t { show 1; } else { if q { show 2; } else { show 3; } }",
			"get 2; unless 5; push 1; show; jump 12; load 0 @m.q; unless 10; push 2; show; jump 12; push 3; show; return"},
		{"if t { if q { show 1; } else { show 2; } }",
			"get 2; unless 9; load 0 @m.q; unless 7; push 1; show; jump 9; push 2; show; return"},
		{"if t && q { show 1; }", "get 2; unless 4; load 0 @m.q; jump 5; push false; unless 8; push 1; show; return"},
		// With blocks that are over: nothing ever comes to the jump.
		{"if t { return; } else { show 2; }", "get 2; unless 4; return; jump 6; push 2; show; return"},
		{"if t { fail 1; } else { return; }", "get 2; unless 5; push 1; fail; jump 6; return; return"},
	})
}

func TestWhile(t *testing.T) {
	eachBody(t, "", []bodyCase{
		{"while t { show 1; }", "get 2; unless 5; push 1; show; jump 0; return"},
		{"show 0; while t { show 1; } show 2;", "push 0; show; get 2; unless 7; push 1; show; jump 2; push 2; show; return"},
		{"while true { }", "push true; unless 3; jump 0; return"},
		{"while t { } while q { }", "get 2; unless 3; jump 0; load 0 @m.q; unless 6; jump 3; return"},
		{"while t { while q { show 1; } }", "get 2; unless 8; load 0 @m.q; unless 7; push 1; show; jump 2; jump 0; return"},
		{"while p < 3 && t { p = p + 1; }", "get 0; push 3; bin <; unless 6; get 2; jump 7; push false; unless 13; get 0; push 1; bin +; put 0; jump 0; return"},
		{"while t { return; }", "get 2; unless 4; return; jump 0; return"},
		{"while t { if q { return; } }", "get 2; unless 6; load 0 @m.q; unless 5; return; jump 0; return"},
	})
}

func TestReturn(t *testing.T) {
	eachBody(t, "", []bodyCase{
		{"return;", "return; return"},
		{"show 1; return; show 2;", "push 1; show; return; push 2; show; return"},
		{"if t { return; }", "get 2; unless 3; return; return"},
	})
	// Behind the Body of a function with a result nothing stands.
	eachBody(t, ": int", []bodyCase{
		{"return 1;", "push 1; return"},
		{"return p + 1;", "get 0; push 1; bin +; return"},
		{"return 1; return 2;", "push 1; return; push 2; return"},
		{"fail 2;", "push 2; fail"},
		{"if t { return 1; } return 2;", "get 2; unless 4; push 1; return; push 2; return"},
		{"while t { return 1; } return 2;", "get 2; unless 5; push 1; return; jump 0; push 2; return"},
		// A jump to the place behind the last instruction, to which nothing ever comes.
		{"if t { return 1; } else { return 2; }", "get 2; unless 5; push 1; return; jump 7; push 2; return"},
		{"if t { return 1; } else { if q { fail 2; } else { return 3; } }",
			"get 2; unless 5; push 1; return; jump 12; load 0 @m.q; unless 10; push 2; fail; jump 12; push 3; return"},
		{"try { return 1; } catch e { return e; }", "try 5; push 1; return; untry; jump 8; put 3; get 3; return"},
		{"try { if t { return 1; } else { fail 2; } } catch e { try { return 3; } catch g { fail g; } }",
			"try 10; get 2; unless 6; push 1; return; jump 8; push 2; fail; untry; jump 19; put 3; try 16; push 3; return; untry; jump 19; put 4; get 4; fail"},
	})
	eachBody(t, ": bool", []bodyCase{{"return t || q;", "get 2; unless 4; push true; jump 5; load 0 @m.q; return"}})
}

func TestShowAndFail(t *testing.T) {
	eachBody(t, "", []bodyCase{
		{"show p; show r; show t;", "get 0; show; get 1; show; get 2; show; return"},
		{"fail p;", "get 0; fail; return"},
		{"fail 1 + v;", "push 1; load 0 @m.v; bin +; fail; return"},
		{"if t { fail 1; }", "get 2; unless 4; push 1; fail; return"},
	})
}

func TestTry(t *testing.T) {
	eachBody(t, "", []bodyCase{
		{"try { show 1; } catch e { show e; }", "try 5; push 1; show; untry; jump 8; put 3; get 3; show; return"},
		{"try { } catch e { }", "try 3; untry; jump 4; put 3; return"},
		{"try { } catch e { show 1; }", "try 3; untry; jump 6; put 3; push 1; show; return"},
		{"try { fail 1; } catch e { fail e; }", "try 5; push 1; fail; untry; jump 8; put 3; get 3; fail; return"},
		{"let a = 1; try { let b = 2; } catch e { let c = e; c = a; }", "push 1; put 3; try 7; push 2; put 4; untry; jump 12; put 5; get 5; put 6; get 3; put 6; return"},
		// Within one another.
		{"try { try { show 1; } catch a { show a; } } catch b { show b; }",
			"try 11; try 6; push 1; show; untry; jump 9; put 3; get 3; show; untry; jump 14; put 4; get 4; show; return"},
		{"try { show 1; } catch a { try { show a; } catch b { show b; } }",
			"try 5; push 1; show; untry; jump 14; put 3; try 11; get 3; show; untry; jump 14; put 4; get 4; show; return"},
		{"while t { try { if q { return; } else { v = 1; } } catch e { v = e; } }",
			"get 2; unless 15; try 11; load 0 @m.q; unless 7; return; jump 9; push 1; store 0 @m.v; untry; jump 14; put 3; get 3; store 0 @m.v; jump 0; return"},
		{"try { while t { show 1; } } catch e { if q { show e; } else { show 2; } } show 3;",
			"try 8; get 2; unless 6; push 1; show; jump 1; untry; jump 16; put 3; load 0 @m.q; unless 14; get 3; show; jump 16; push 2; show; push 3; show; return"},
		{"if t { try { } catch e { } } else { while q { } }",
			"get 2; unless 7; try 5; untry; jump 6; put 3; jump 10; load 0 @m.q; unless 10; jump 7; return"},
	})
}

// What a call leaves on the stack is dropped, if it leaves something.
func TestDo(t *testing.T) {
	eachBody(t, "", []bodyCase{
		{"none();", "call 0 @m.none; return"},
		{"one(p);", "get 0; call 0 @m.one; return"},
		{"num();", "call 0 @m.num; drop; return"},
		{"two(1, w);", "push 1; load 0 @m.w; call 0 @m.two; drop; return"},
		{"f(1, 1.5, true);", "push 1; push 0x1.8p+0; push true; call 0 @m.f; return"},
		{"k.h();", "call 0 @k.h; return"},
		{"k.n();", "call 0 @k.n; drop; return"},
		// The same name in several modules.
		{"k.g(p); j.g(r);", "get 0; call 0 @k.g; drop; get 1; call 0 @j.g; return"},
		{"num(); j.num();", "call 0 @m.num; drop; call 0 @j.num; drop; return"},
		{"one(num()); k.g(num());", "call 0 @m.num; call 0 @m.one; call 0 @m.num; call 0 @k.g; drop; return"},
	})
	eachBody(t, ": int", []bodyCase{{"f(1, 1.5, true); return 1;", "push 1; push 0x1.8p+0; push true; call 0 @m.f; drop; push 1; return"}})
}

// Functions with the same name, of the own and another module, with a result or without.
func TestDoOfOneNameInTwoModules(t *testing.T) {
	for _, c := range []struct {
		own  string
		far  int
		want string
	}{
		{"fn g() { }", api.TNone, "call 0 @m.g; call 0 @k.g; return"},
		{"fn g() { }", api.TFloat, "call 0 @m.g; call 0 @k.g; drop; return"},
		{"fn g(): int { return 1; }", api.TNone, "call 0 @m.g; drop; call 0 @k.g; return"},
		{"fn g(): int { return 1; }", api.TBool, "call 0 @m.g; drop; call 0 @k.g; drop; return"},
	} {
		m := module(t, "import k; "+c.own+" fn f() { g(); k.g(); }")
		is(t, c.own, listing(objectOf(t, m, showing("k", fn("g", c.far))), "f"), c.want)
	}
}
