package source_test

import (
	"fmt"
	"reflect"
	"slices"
	"strings"
	"testing"

	"foundry/api"
	"foundry/parse"
	"foundry/source"
	"foundry/types"
)

// is fails unless got is what it has to be.
func is[T comparable](t *testing.T, what string, got, want T) {
	t.Helper()
	if got != want {
		t.Errorf("%s: %v, not %v", what, got, want)
	}
}

// modules: of texts; of one that does not begin with its own head the module main.
func modules(t *testing.T, texts ...string) []api.Module {
	t.Helper()
	var l []api.Module
	for _, text := range texts {
		if !strings.HasPrefix(text, "module ") {
			text = "module main; " + text
		}
		m, at, code := parse.Parse(text)
		if code != api.OK {
			t.Fatalf("%q: %v at %d", text, code, at)
		}
		l = append(l, m)
	}
	return l
}

// program: of a right project.
func program(t *testing.T, texts ...string) *source.Program {
	t.Helper()
	p, code := source.New(modules(t, texts...))
	if code != api.OK || p == nil {
		t.Fatalf("%q: %v", texts, code)
	}
	return p
}

func trapName(trap int) string {
	l := []string{"none", "over", "zero", "conv", "input", "deep", "fail", "trace"}
	if trap < 0 || trap >= len(l) {
		return fmt.Sprint(trap)
	}
	return l[trap]
}

func howItStands(o api.Outcome) string {
	switch {
	case o == api.Outcome{Kind: api.Running}:
		return "running"
	case o == api.Outcome{Kind: api.Halted, Value: o.Value}:
		return fmt.Sprint("halted ", o.Value)
	case o == api.Outcome{Kind: api.Trapped, Trap: api.TrapFail, Value: o.Value}:
		return fmt.Sprint("fail ", o.Value)
	case o == api.Outcome{Kind: api.Trapped, Trap: o.Trap}:
		return "trap " + trapName(o.Trap)
	}
	return fmt.Sprint("no outcome ", o)
}

func shown(trace []api.Value) string {
	var l []string
	for _, v := range trace {
		l = append(l, types.Show(v))
	}
	return strings.Join(l, " ")
}

// told: all that Run answers, as one text: what was shown, how it stands, the steps.
func told(trace []api.Value, o api.Outcome, steps int) string {
	return fmt.Sprintf("%s | %s | %d", shown(trace), howItStands(o), steps)
}

// deed: a project's texts, the input, and what a run with many steps tells.
type deed struct {
	texts []string
	input []int64
	want  string
}

func one(text, want string) deed {
	return deed{texts: []string{text}, want: want}
}

// fits: is the one trace a beginning of the other?
func fits(beginning, whole []api.Value) bool {
	return len(beginning) <= len(whole) && slices.Equal(beginning, whole[:len(beginning)])
}

// each holds the deeds against Run: with many steps, with just as many as are needed, and with one fewer.
func each(t *testing.T, deeds ...deed) {
	t.Helper()
	for _, d := range deeds {
		p := program(t, d.texts...)
		what := strings.Join(d.texts, " ")
		trace, o, n := p.Run(d.input, api.MaxFuel)
		is(t, what, told(trace, o, n), d.want)
		if n < 1 || o.Kind == api.Running {
			continue
		}
		is(t, what+": with just as many steps", told(p.Run(d.input, n)), d.want)
		fewer, o, made := p.Run(d.input, n-1)
		is(t, what+": with one fewer", fmt.Sprint(howItStands(o), made), fmt.Sprint("running", n-1))
		is(t, what+": its trace with one fewer", fits(fewer, trace), true)
	}
}

// inMain: the body of main with these declarations ahead of it, and a run of it that takes no input.
func inMain(decls string) func(body, want string) deed {
	return func(body, want string) deed {
		return one(decls+" fn main(): int { "+body+" }", want)
	}
}

// lists tells each list in what is handed out, with its spare room, to what is done with it.
func lists(v reflect.Value, do func(reflect.Value)) {
	switch v.Kind() {
	case reflect.Struct:
		for i := range v.NumField() {
			lists(v.Field(i), do)
		}
	case reflect.Slice:
		for i := range v.Len() {
			lists(v.Index(i), do)
		}
		if v.Cap() > 0 {
			do(v)
		}
	}
}

// scribble writes all over it, spare room too.
func scribble[T any](thing *T) {
	lists(reflect.ValueOf(thing).Elem(), func(l reflect.Value) { l.Slice(0, l.Cap()).Clear() })
}

// spared: the list by itself, with something in its spare room.
func spared[T any](l []T, spare T) []T {
	c := append(make([]T, 0, len(l)+2), l...)
	return append(c, spare, spare)[:len(l)]
}

// wholeKey: all that is in there, what stands in spare room too.
func wholeKey(v reflect.Value) string {
	switch v.Kind() {
	case reflect.Struct:
		key := "{"
		for i := range v.NumField() {
			key += wholeKey(v.Field(i)) + ","
		}
		return key + "}"
	case reflect.Slice:
		key := fmt.Sprint(v.Len(), "[")
		full := v.Slice(0, v.Cap())
		for i := range full.Len() {
			key += wholeKey(full.Index(i)) + ";"
		}
		return key + "]"
	}
	return fmt.Sprintf("%#v", v.Interface())
}

// times: a list of n of them.
func times[T any](n int, x T) []T {
	return slices.Repeat([]T{x}, n)
}
