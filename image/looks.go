package image

import (
	"slices"
	"strconv"
	"strings"

	"foundry/api"
	"foundry/code"
	"foundry/types"
)

// Same: are the images the same in all, right or not?
func Same(a, b Image) bool {
	return slices.Equal(a.Vars, b.Vars) && slices.EqualFunc(a.Fns, b.Fns, sameFn) && a.Main == b.Main
}

func sameFn(a, b code.Fn) bool {
	return slices.Equal(a.Sig.Params, b.Sig.Params) && a.Sig.Result == b.Sig.Result &&
		slices.Equal(a.Locals, b.Locals) && slices.Equal(a.Code, b.Code)
}

// Text: the image in lines; of one that is not right nothing.
func Text(i Image) string {
	if Right(i) != api.OK {
		return ""
	}
	var lines strings.Builder
	lines.WriteString("image" + numbers(len(i.Vars), len(i.Fns), i.Main) + "\n")
	for _, v := range i.Vars {
		lines.WriteString("var " + types.Show(v) + "\n")
	}
	for at, f := range i.Fns {
		lines.WriteString("fn" + numbers(at) + "\n" + code.Texts(f.Code))
	}
	return lines.String()
}

// numbers: each in decimal digits, a blank ahead of it.
func numbers(l ...int) string {
	var text string
	for _, n := range l {
		text += " " + strconv.Itoa(n)
	}
	return text
}
