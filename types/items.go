package types

import (
	"slices"
	"strings"

	"foundry/api"
	"foundry/names"
)

// RightItem: OK if the item is right, or the first thing that is wrong with it.
func RightItem(i api.Item) api.Errno {
	if i.Kind != api.DConst && i.Kind != api.DFn {
		return api.ErrArg
	}
	if e := names.Right(i.Name); e != api.OK {
		return e
	}
	switch {
	case len(i.Params) > api.MaxParams:
		return api.ErrBig
	case i.Kind == api.DConst && !fitsConst(i), i.Kind == api.DFn && !fitsFn(i):
		return api.ErrArg
	}
	return api.OK
}

func fitsConst(i api.Item) bool {
	return Right(valueOf(i)) && len(i.Params) == 0
}

func fitsFn(i api.Item) bool {
	none := func(t int) bool { return !ofValues(t) }
	return (i.Type == api.TNone || ofValues(i.Type)) && i.Bits == 0 && !slices.ContainsFunc(i.Params, none)
}

func valueOf(i api.Item) api.Value {
	return api.Value{Type: i.Type, Bits: i.Bits}
}

// RightIface: OK if the interface is right, or the first thing that is wrong in it.
func RightIface(f api.Iface) api.Errno {
	if e := names.Right(f.Name); e != api.OK {
		return e
	}
	if len(f.Items) > api.MaxItems {
		return api.ErrBig
	}
	// No name is empty, so all of them are behind this one.
	ahead := ""
	for _, i := range f.Items {
		if e := RightItem(i); e != api.OK {
			return e
		}
		switch names.Cmp(i.Name, ahead) {
		case 0:
			return api.ErrTwice
		case -1:
			return api.ErrArg
		}
		ahead = i.Name
	}
	return api.OK
}

// head: an item but for its list, so that two of them can be compared.
type head struct {
	kind int
	name string
	typ  int
	bits uint64
}

func headOf(i api.Item) head {
	return head{i.Kind, i.Name, i.Type, i.Bits}
}

// SameItem: are all fields alike?
func SameItem(a, b api.Item) bool {
	return headOf(a) == headOf(b) && slices.Equal(a.Params, b.Params)
}

// SameIface: are all fields alike, all through?
func SameIface(a, b api.Iface) bool {
	return a.Name == b.Name && slices.EqualFunc(a.Items, b.Items, SameItem)
}

// Get: the first item of that name, and true.
func Get(f api.Iface, name string) (api.Item, bool) {
	for _, i := range f.Items {
		if i.Name == name {
			return copyItem(i), true
		}
	}
	return api.Item{}, false
}

func copyItem(i api.Item) api.Item {
	i.Params = append([]int(nil), i.Params...)
	return i
}

// Sorted: the items in the order of their names, like ones as they stood.
func Sorted(l []api.Item) []api.Item {
	var sorted []api.Item
	for _, i := range l {
		sorted = append(sorted, copyItem(i))
	}
	slices.SortStableFunc(sorted, func(a, b api.Item) int { return names.Cmp(a.Name, b.Name) })
	return sorted
}

// Diff: the set of the names of which the interfaces have unlike items, or one of them alone has one.
func Diff(a, b api.Iface) []string {
	inA, inB := firstOfEach(a.Items), firstOfEach(b.Items)
	return names.Union(unlike(inA, inB), unlike(inB, inA))
}

// firstOfEach: what Get tells of each name, all at once.
func firstOfEach(l []api.Item) map[string]api.Item {
	first := map[string]api.Item{}
	for _, i := range l {
		if _, there := first[i.Name]; !there {
			first[i.Name] = i
		}
	}
	return first
}

// unlike: the names that have no item in others, or another one; in no order, since a set is made of them.
func unlike(items, others map[string]api.Item) []string {
	var l []string
	for name, i := range items {
		if other, there := others[name]; !there || !SameItem(i, other) {
			l = append(l, name)
		}
	}
	return l
}

// Text: the item as it is told; of another kind than an item's nothing.
func Text(i api.Item) string {
	switch i.Kind {
	case api.DConst:
		return "const " + i.Name + ": " + Name(i.Type) + " = " + Show(valueOf(i))
	case api.DFn:
		return "fn " + i.Name + "(" + paramsText(i.Params) + ")" + resultText(i.Type)
	}
	return ""
}

func paramsText(params []int) string {
	var words []string
	for _, t := range params {
		words = append(words, Name(t))
	}
	return strings.Join(words, ", ")
}

func resultText(t int) string {
	word := Name(t)
	if word == "" {
		return ""
	}
	return ": " + word
}
