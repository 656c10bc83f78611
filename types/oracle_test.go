package types_test

import (
	"fmt"
	"math"
	"slices"
	"strconv"
	"strings"

	"foundry/api"
	"foundry/floats"
)

// A model of the chapter's words, which asks one thing after the other and takes no short way.

// words: the types' names at their numbers.
func words() []string {
	return []string{"", "int", "float", "bool"}
}

func modelName(t int) string {
	for n, word := range words() {
		if n == t {
			return word
		}
	}
	return ""
}

func isNaN(a uint64) bool {
	return a>>52&0x7ff == 0x7ff && a<<12 != 0
}

func modelRight(v api.Value) bool {
	switch modelName(v.Type) {
	case "int":
		return true
	case "float":
		return !isNaN(v.Bits) || v.Bits == floats.NaN
	case "bool":
		return v.Bits == 0 || v.Bits == 1
	}
	return false
}

func modelShow(v api.Value) string {
	switch modelName(v.Type) {
	case "int":
		return strconv.FormatInt(int64(v.Bits), 10)
	case "float":
		return modelFloat(v.Bits)
	case "bool":
		return fmt.Sprint(v.Bits != 0)
	}
	return ""
}

// modelFloat: as Go writes it, but for the names of what is no number and the noughts of the exponent.
func modelFloat(a uint64) string {
	x := math.Float64frombits(a)
	switch {
	case isNaN(a):
		return "nan"
	case math.IsInf(x, 1):
		return "inf"
	case math.IsInf(x, -1):
		return "-inf"
	}
	digits, exponent, _ := strings.Cut(strconv.FormatFloat(x, 'x', -1, 64), "p")
	n, _ := strconv.Atoi(exponent)
	return fmt.Sprintf("%sp%+d", digits, n)
}

// modelUnary: what the chapter says, operator by operator: what it takes, and what it makes of that.
func modelUnary(op, t int) (int, api.Errno) {
	lines := []string{
		api.UNeg:   "int>int float>float",
		api.UNot:   "bool>bool",
		api.UInt:   "float>int",
		api.UFloat: "int>float",
	}
	if op < 1 || op > 4 {
		return 0, api.ErrArg
	}
	return modelMade(lines[op], modelName(t))
}

func modelBinary(op, a, b int) (int, api.Errno) {
	lines := []string{
		api.BAdd: "int,int>int float,float>float",
		api.BSub: "int,int>int float,float>float",
		api.BMul: "int,int>int float,float>float",
		api.BDiv: "int,int>int float,float>float",
		api.BRem: "int,int>int",
		api.BEq:  "int,int>bool float,float>bool bool,bool>bool",
		api.BNe:  "int,int>bool float,float>bool bool,bool>bool",
		api.BLt:  "int,int>bool float,float>bool",
		api.BLe:  "int,int>bool float,float>bool",
		api.BGt:  "int,int>bool float,float>bool",
		api.BGe:  "int,int>bool float,float>bool",
		api.BAnd: "bool,bool>bool",
		api.BOr:  "bool,bool>bool",
	}
	if op < 1 || op > 13 {
		return 0, api.ErrArg
	}
	return modelMade(lines[op], modelName(a)+","+modelName(b))
}

func modelMade(line, taken string) (int, api.Errno) {
	for _, rule := range strings.Fields(line) {
		if left, right, _ := strings.Cut(rule, ">"); left == taken {
			return slices.Index(words(), right), api.OK
		}
	}
	return 0, api.ErrType
}

func modelNameError(s string) api.Errno {
	const letters = "ABCDEFGHIJKLMNOPQRSTUVWXYZabcdefghijklmnopqrstuvwxyz_"
	reserved := strings.Fields("bool catch const else export fail false float fn if import inf input int let module nan return show true try var while")
	switch {
	case strings.Trim(s, letters+"0123456789") != "", s == "", !strings.Contains(letters, s[:1]):
		return api.ErrName
	case len(s) > 32:
		return api.ErrBig
	case slices.Contains(reserved, s):
		return api.ErrName
	}
	return api.OK
}

// allOf: the first error that is none.
func allOf(l ...api.Errno) api.Errno {
	for _, e := range l {
		if e != api.OK {
			return e
		}
	}
	return api.OK
}

func when(wrong bool, e api.Errno) api.Errno {
	if wrong {
		return e
	}
	return api.OK
}

func modelRightItem(i api.Item) api.Errno {
	isConst, isFn := i.Kind == 1, i.Kind == 3
	l := []api.Errno{
		when(!isConst && !isFn, api.ErrArg),
		modelNameError(i.Name),
		when(len(i.Params) > 8, api.ErrBig),
		when(isConst && !modelRight(value(i.Type, i.Bits)), api.ErrArg),
		when(isConst && len(i.Params) > 0, api.ErrArg),
		when(isFn && i.Type != 0 && modelName(i.Type) == "", api.ErrArg),
		when(isFn && i.Bits != 0, api.ErrArg),
	}
	for _, p := range i.Params {
		l = append(l, when(modelName(p) == "", api.ErrArg))
	}
	return allOf(l...)
}

func modelRightIface(f api.Iface) api.Errno {
	l := []api.Errno{modelNameError(f.Name), when(len(f.Items) > 64, api.ErrBig)}
	for at, i := range f.Items {
		l = append(l, modelRightItem(i))
		if at > 0 {
			l = append(l, when(i.Name == f.Items[at-1].Name, api.ErrTwice), when(i.Name < f.Items[at-1].Name, api.ErrArg))
		}
	}
	return allOf(l...)
}

// modelGet: the key of the first item of that name.
func modelGet(f api.Iface, name string) (string, bool) {
	for _, i := range f.Items {
		if i.Name == name {
			return itemKey(i), true
		}
	}
	return "", false
}

// modelSorted: each item is put ahead of the first one whose name is more.
func modelSorted(l []api.Item) []api.Item {
	var sorted []api.Item
	for _, i := range l {
		at := 0
		for at < len(sorted) && sorted[at].Name <= i.Name {
			at++
		}
		sorted = slices.Insert(sorted, at, i)
	}
	return sorted
}

// sortedUnlike: the items in order, the first one of each name alone.
func sortedUnlike(l []api.Item) []api.Item {
	return slices.CompactFunc(modelSorted(l), func(a, b api.Item) bool { return a.Name == b.Name })
}

func modelDiff(a, b api.Iface) []string {
	var l []string
	for _, i := range modelSorted(append(slices.Clone(a.Items), b.Items...)) {
		inA, thereA := modelGet(a, i.Name)
		inB, thereB := modelGet(b, i.Name)
		if (thereA != thereB || inA != inB) && !slices.Contains(l, i.Name) {
			l = append(l, i.Name)
		}
	}
	return l
}

func modelText(i api.Item) string {
	switch i.Kind {
	case 1:
		return fmt.Sprintf("const %s: %s = %s", i.Name, modelName(i.Type), modelShow(value(i.Type, i.Bits)))
	case 3:
		params := ""
		for at, p := range i.Params {
			if at > 0 {
				params += ", "
			}
			params += modelName(p)
		}
		result := ""
		if word := modelName(i.Type); word != "" {
			result = ": " + word
		}
		return fmt.Sprintf("fn %s(%s)%s", i.Name, params, result)
	}
	return ""
}
