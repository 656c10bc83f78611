package source_test

import (
	"fmt"
	"slices"
	"testing"

	"foundry/api"
	"foundry/source"
	"foundry/tree"
)

// madeProgram: the project of the seed, and its program.
func madeProgram(t *testing.T, seed uint64) ([]api.Module, *source.Program) {
	t.Helper()
	l := made(seed)
	p, code := source.New(l)
	if code != api.OK {
		t.Fatalf("seed %d: %v", seed, code)
	}
	return l, p
}

// texts: for a human, where something is wrong.
func texts(l []api.Module) string {
	text := ""
	for _, m := range l {
		s, _ := tree.Print(m)
		text += s
	}
	return text
}

// P1302 to P1304: what a model does that looks names up as it goes, and hands up what it has to, instead of throwing it.
func TestRunIsTheModels(t *testing.T) {
	ends := map[string]int{}
	for seed := range uint64(1200) {
		l, p := madeProgram(t, seed)
		x := mixer(seed * 7)
		input := x.numbers()
		for _, steps := range []int{x.below(30), x.below(300), 3000, pick(&x, 4000, 5000, 6000, api.MaxFuel)} {
			trace, o, n := p.Run(input, steps)
			wantTrace, wantO, wantN := modelOf(l, input, steps).run()
			if told(trace, o, n) != told(wantTrace, wantO, wantN) || !slices.Equal(trace, wantTrace) {
				t.Fatalf("seed %d, input %v, steps %d: %s, not %s\n%s", seed, input, steps, told(trace, o, n), told(wantTrace, wantO, wantN), texts(l))
			}
			ends[fmt.Sprint(o.Kind, " ", trapName(o.Trap))]++
		}
	}
	for _, end := range []string{"0 none", "1 none", "2 over", "2 zero", "2 conv", "2 input", "2 deep", "2 fail", "2 trace"} {
		if ends[end] < 5 {
			t.Errorf("only %d runs end so: %s", ends[end], end)
		}
	}
}

// P1306.
func TestWithMoreSteps(t *testing.T) {
	for seed := range uint64(250) {
		_, p := madeProgram(t, 10000+seed)
		x := mixer(seed)
		input := x.numbers()
		last, lastO, lastN := p.Run(input, 0)
		for steps := 1; steps < 400; steps += 1 + x.below(3) {
			trace, o, n := p.Run(input, steps)
			what := fmt.Sprint("seed ", seed, ", ", steps, " steps")
			is(t, what+": the trace begins as with fewer", fits(last, trace), true)
			if lastO.Kind != api.Running {
				is(t, what+": what ended stays", told(trace, o, n), told(last, lastO, lastN))
			}
			is(t, what+": all that were asked for, or an end", o.Kind != api.Running || n == steps, true)
			is(t, what+": no more than were asked for", n <= steps, true)
			last, lastO, lastN = trace, o, n
		}
	}
}

// P1307.
func TestWithMoreInput(t *testing.T) {
	whole, cut := 0, 0
	for seed := range uint64(500) {
		l, p := madeProgram(t, 20000+seed)
		x := mixer(seed)
		input := x.numbers()
		steps := pick(&x, 100, 1000, 5000)
		want := told(p.Run(input, steps))
		m := modelOf(l, input, steps)
		m.run()
		what := fmt.Sprint("seed ", seed)
		if !m.wanted {
			whole++
			is(t, what+": more of it", told(p.Run(append(slices.Clone(input), x.numbers()...), steps)), want)
		}
		if m.taken < len(input) {
			cut++
			other := slices.Clone(input[:m.taken])
			is(t, what+": those that were taken", told(p.Run(other, steps)), want)
			is(t, what+": others behind them", told(p.Run(append(other, 77, -5), steps)), want)
		}
	}
	is(t, "enough of both", whole > 60 && cut > 60, true)
}

func TestNumbersBehindThoseThatWereTaken(t *testing.T) {
	p := program(t, "fn main(): int { show input; if input == 0 { return 1; } show input; return 2; }")
	for _, more := range [][]int64{nil, {}, {1}, {0}, {-1 << 63, 5, 6}, make([]int64, api.MaxInput-3)} {
		is(t, "two taken", told(p.Run(append([]int64{5, 0}, more...), 9)), "5 | halted 1 | 4")
		is(t, "three taken", told(p.Run(append([]int64{5, 1, 7}, more...), 9)), "5 7 | halted 2 | 5")
	}
	is(t, "too few", told(p.Run([]int64{5, 1}, 9)), "5 | trap input | 4")
	// A run that is cut short has asked for no more than it came to.
	is(t, "cut short", told(p.Run([]int64{5}, 2)), "5 | running | 2")
	is(t, "cut short, with more", told(p.Run([]int64{5, 6, 7}, 2)), "5 | running | 2")
	// Want of input that is caught is want of input, too.
	caught := program(t, "fn main(): int { try { show input; show input; } catch e { show e; } return 0; }")
	is(t, "caught", told(caught.Run([]int64{5}, 9)), "5 -4 | halted 0 | 6")
	is(t, "with more", told(caught.Run([]int64{5, 6}, 9)), "5 6 | halted 0 | 5")
}

// P1301: projects of which something may be wrong.

// spoiled: the project with something in it changed, most often for the worse.
func (x *mixer) spoiled(l []api.Module) []api.Module {
	var s []api.Module
	for _, m := range l {
		s = append(s, tree.Copy(m))
	}
	m := &s[x.below(len(s))]
	d := &m.Decls[x.below(len(m.Decls))]
	switch x.below(12) {
	case 0:
		at := x.below(len(s))
		return slices.Delete(s, at, at+1)
	case 1:
		return append(s, tree.Copy(*m))
	case 2:
		return append(s, api.Module{Name: pick(x, "new", "Main", "", "if", "a", "k")})
	case 3:
		m.Name = pick(x, "a", "k", "z", "main", "new", "9")
	case 4:
		m.Imports = append(m.Imports, pick(x, "a", "k", "z", "main", "nobody"))
	case 5:
		m.Imports = m.Imports[:len(m.Imports)/2]
	case 6:
		m.Decls = slices.Delete(m.Decls, 0, 1)
	case 7:
		m.Decls = m.Decls[:len(m.Decls)-1]
	case 8:
		d.Type = x.below(5)
	case 9:
		d.Name = pick(x, "main", "f0", "C0", "v0", "a", "k", "other")
	case 10:
		d.Export = !d.Export
	case 11:
		d.Params = append(d.Params, api.Param{Name: pick(x, "p0", "p9", "f1"), Type: 1})
	}
	return s
}

func TestNewIsTheModels(t *testing.T) {
	right, wrong := 0, 0
	for seed := range uint64(900) {
		x := mixer(seed)
		l := x.spoiled(made(30000 + seed/3))
		code, there := newAnswers(l)
		wantCode, wantThere := modelNew(l)
		is(t, fmt.Sprint("seed ", seed), fmt.Sprint(code, there), fmt.Sprint(wantCode, wantThere))
		if wantThere {
			right++
		} else {
			wrong++
		}
	}
	is(t, "enough of both", right > 90 && wrong > 180, true)
}
