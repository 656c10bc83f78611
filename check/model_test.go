package check_test

import (
	"fmt"
	"testing"

	"foundry/api"
	"foundry/check"
	"foundry/tree"
)

// outer: the maker as it is where there are no local names.
func (x *maker) outer() *maker {
	x.locals = nil
	return x
}

// Modules that nothing is wrong with, and modules with one or the other fault.
func TestCheckIsTheModels(t *testing.T) {
	seen := map[api.Errno]int{}
	for seed := range uint64(12000) {
		astrayIn := []int{0, 400, 100, 30}[seed%4]
		x := made(seed, astrayIn)
		want := stops(modelCheck(x.m, x.given))
		info, at, code := check.Check(x.m, x.given)
		if got := stops(info, at, code); got != want {
			text, _ := tree.Print(x.m)
			t.Fatalf("seed %d: %s, not %s\n%s", seed, got, want, text)
		}
		if astrayIn == 0 {
			is(t, fmt.Sprint("seed ", seed), code, api.OK)
		}
		seen[code]++
	}
	for _, code := range []api.Errno{api.OK, api.ErrTwice, api.ErrUnknown, api.ErrType, api.ErrCount, api.ErrReturn, api.ErrImport, api.ErrConst} {
		if seen[code] < 20 {
			t.Errorf("%d came only %d times: %v", code, seen[code], seen)
		}
	}
}

func TestTypeIsTheModels(t *testing.T) {
	seen := map[api.Errno]int{}
	for seed := range uint64(1500) {
		x := made(seed, []int{0, 300}[seed%2]).outer()
		x.astrayIn = 12
		for range 10 {
			e := x.expr(x.below(4), 4)
			want := typedText(modelType(x.m, x.given, e))
			if got := typed(x.m, x.given, e); got != want {
				text, _ := tree.Text(e)
				module, _ := tree.Print(x.m)
				t.Fatalf("seed %d, %s: %s, not %s\n%s", seed, text, got, want, module)
			}
			_, code := check.Type(x.m, x.given, e)
			seen[code]++
		}
	}
	for _, code := range []api.Errno{api.OK, api.ErrUnknown, api.ErrType, api.ErrCount} {
		if seen[code] < 100 {
			t.Errorf("%d came only %d times: %v", code, seen[code], seen)
		}
	}
}
