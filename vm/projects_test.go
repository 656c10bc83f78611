package vm_test

import (
	"fmt"
	"strings"
	"testing"

	"foundry/api"
	"foundry/gen"
	"foundry/iface"
	"foundry/image"
	"foundry/link"
	"foundry/object"
	"foundry/parse"
	"foundry/source"
)

// linked: the image of modules, each of which stands behind those that it imports.
func linked(t *testing.T, modules []api.Module) image.Image {
	t.Helper()
	var objects []object.Object
	var shown []api.Iface
	for _, m := range modules {
		o, at, e := gen.Gen(m, shown)
		if e != api.OK {
			t.Fatalf("%s: %v at %d", m.Name, e, at)
		}
		f, _, e := iface.Extract(m, shown)
		if e != api.OK {
			t.Fatalf("%s: %v", m.Name, e)
		}
		objects, shown = append(objects, o), append(shown, f)
	}
	i, p := link.Link(objects)
	if p.Code != api.OK {
		t.Fatalf("Link: %v", p)
	}
	return i
}

func parsed(t *testing.T, texts ...string) []api.Module {
	t.Helper()
	var l []api.Module
	for _, text := range texts {
		m, at, e := parse.Parse(text)
		if e != api.OK {
			t.Fatalf("%s: %v at %d", text, e, at)
		}
		l = append(l, m)
	}
	return l
}

// compiled: the image of texts.
func compiled(t *testing.T, texts ...string) image.Image {
	t.Helper()
	return linked(t, parsed(t, texts...))
}

// written: texts of a project of four modules, with imports, variables, tries and recursion.
func written() []string {
	return []string{
		"module k; export const C: int = 3; var v: int = 2; export fn f(a: int): int { v = v + a; return v * C; } fn own(): bool { return v > 5; } export fn g(b: bool) { if b { show f(1); } else { show own(); } }",
		"module a; import k; var v: float = 1.5; var w: bool = true; export fn f(): float { while w { w = k.f(k.C) < 100; v = v * 2.0; } return v; } export fn none() { }",
		"module z; import a; import k; export fn main(a0: int): int { try { k.g(a0 == 1); fail k.f(a0); } catch e { return e; } }",
		"module main; import z; import a; import k; var v: int = 10; fn f(n: int): int { if n < 1 { return k.f(n); } return f(n - 1) + v; } fn main(): int { show a.f(); a.none(); v = f(3); show z.main(v); k.g(false); return v; }",
	}
}

func TestWrittenProject(t *testing.T) {
	m := begun(t, compiled(t, written()...))
	_, o, _ := m.Run(5000)
	// k.v is 2, and 3 more each time; a.v is doubled as often.
	is(t, "a.f", strings.Fields(valuesTold(m.Trace()))[0], "0x1.8p+11")
	p, e := source.New(parsed(t, written()...))
	is(t, "source.New", e, api.OK)
	trace, outcome, _ := p.Run(nil, 5000)
	isText(t, "the trace", valuesTold(m.Trace()), valuesTold(trace))
	is(t, "the outcome", o, outcome)
	is(t, "it ends", o.Kind, api.Halted)
}

// The document's examples of the whole, and others: what they show, and how they end.
func TestWhatProgramsShow(t *testing.T) {
	for _, c := range []struct {
		body  string
		input []int64
		want  string
	}{
		{"fn main(): int { return 5; }", nil, "() halted 5 0"},
		{"fn main(): int { show 0.0 / 0.0; show 1.0 / -0.0; return 0; }", nil, "(nan -inf) halted 0 0"},
		{"fn main(): int { return int(0.0 / 0.0); }", nil, "() trapped 3 0 0"},
		{"fn main(): int { try { fail 5; } catch e { show e; } try { show 1 / (0 * 2); } catch e { show e; } return 0; }", nil, "(5 -2) halted 0 0"},
		{"var n: int = 2; fn main(): int { while n > 0 { show n; n = n - 1; } return 7; }", nil, "(2 1) halted 7 0"},
		{"fn main(): int { try { fail 5; } catch e { show e; } return 1 / 0; }", nil, "(5) trapped 2 0 0"},
		{"fn f(): int { return f(); } fn main(): int { return f(); }", nil, "() trapped 5 0 0"},
		{"fn main(): int { return input + 10 * input; }", []int64{3, 4, 5}, "() halted 43 0"},
		{"fn main(): int { let n = 0; try { while true { n = n + input; } } catch e { show e; } return n; }", []int64{3, 4, 5}, "(-4) halted 12 0"},
		{"fn main(): int { let n = 0; while true { show n; n = n + 1; } return n; }", nil, "trace"},
		{"fn fib(n: int): int { if n < 2 { return n; } return fib(n - 1) + fib(n - 2); } fn main(): int { return fib(15); }", nil, "() halted 610 0"},
		{"fn down(n: int): int { try { return down(n + 1); } catch e { return n; } } fn main(): int { return down(1); }", nil, "() halted 63 0"},
		{"var v: int = 1; fn g(n: int): int { v = v * n; if v > 1000 { fail v; } return g(n + 1); } fn main(): int { try { return g(1); } catch e { show v; return e + 1; } }", nil, "(5040) halted 5041 0"},
		{"fn b(n: int): bool { show n; return n > 1; } fn main(): int { if b(1) && b(2) { return 1; } if b(2) || b(3) { return 2; } return 3; }", nil, "(1 2) halted 2 0"},
	} {
		text := "module main; " + c.body
		m := begun(t, compiled(t, text), c.input...)
		l, o, e := m.Run(65536)
		if c.want == "trace" {
			is(t, text, fmt.Sprint(len(l), outcomeTold(o), int(e)), "1024trapped 7 00")
			continue
		}
		isText(t, text, runTold(l, o, e), c.want)
	}
}

// What a linked image does is what its source says.
func TestLinkedImagesDoWhatTheSourceSays(t *testing.T) {
	ends := map[string]int{}
	for seed := range uint64(300) {
		x := mixer(seed)
		modules, input := project(3000+seed), x.inputs()
		p, e := source.New(modules)
		is(t, "source.New", e, api.OK)
		want, o, _ := p.Run(input, 4000)
		m := begun(t, linked(t, modules), input...)
		for m.Steps() < 300000 && m.Outcome().Kind == api.Running {
			m.Run(api.MaxFuel)
		}
		trace, what := m.Trace(), fmt.Sprint("seed ", seed)
		if o.Kind == api.Running {
			n := min(len(trace), len(want))
			isText(t, what+": as far as both go", valuesTold(trace[:n]), valuesTold(want[:n]))
		} else {
			is(t, what, m.Outcome(), o)
			isText(t, what, valuesTold(trace), valuesTold(want))
		}
		ends[fmt.Sprint(o.Kind, o.Trap)]++
	}
	for _, end := range []string{"0 0", "1 0", "2 1", "2 2", "2 3", "2 4", "2 5", "2 6", "2 7"} {
		if ends[end] < 3 {
			t.Errorf("only %d runs end so: %s", ends[end], end)
		}
	}
}

// P5 of the whole: with any fuel a beginning of the trace of the source.
func TestLinkedImagesShowABeginning(t *testing.T) {
	for seed := range uint64(60) {
		x := mixer(seed + 77)
		modules, input := project(5000+seed), x.inputs()
		p, _ := source.New(modules)
		want, o, _ := p.Run(input, api.MaxFuel)
		m := begun(t, linked(t, modules), input...)
		for range 20 {
			m.Run(x.below(300))
			trace := m.Trace()
			if o.Kind == api.Running && len(trace) > len(want) {
				break
			}
			isText(t, "a beginning", valuesTold(trace), valuesTold(want[:min(len(trace), len(want))]))
		}
	}
}

func TestLinkedImagesAreTheModels(t *testing.T) {
	for seed := range uint64(80) {
		x := mixer(seed)
		i, input := linked(t, project(7000+seed)), x.inputs()
		m, s := begun(t, i, input...), modelOf(i, input)
		for range 40 {
			fuel := x.below(60)
			isText(t, "Run", valuesTold(shownBy(m.Run(fuel))), valuesTold(s.run(fuel)))
			isText(t, "all it tells", told(m), s.told())
		}
	}
}

func shownBy(l []api.Value, _ api.Outcome, _ api.Errno) []api.Value {
	return l
}

// P1906, of images out of gen and link.
func TestStacksOfLinkedImages(t *testing.T) {
	x := mixer(19060)
	images := []image.Image{compiled(t, written()...)}
	for seed := range uint64(30) {
		images = append(images, linked(t, project(9000+seed)))
	}
	for _, i := range images {
		s := shapesOf(i)
		m := begun(t, i, x.inputs()...)
		for range 250 {
			s.fits(t, m)
			m.Run(1)
		}
	}
}
