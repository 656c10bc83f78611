package tree_test

import (
	"fmt"
	"math"
	"sort"
	"strings"

	"foundry/api"
	"foundry/floats"
)

// A model of the chapter's words, by tables and by texts.

// reserved: chapter 4's list, as it stands there.
func reserved() []string {
	return strings.Fields("bool catch const else export fail false float fn if import inf input int let module nan return show true try var while")
}

// viewer writes texts that are alike just of what is alike, field by field; if it is true, of what stands in the lists' spare room too.
type viewer bool

func (w viewer) expr(e api.Expr) string {
	return fmt.Sprintf("e(%d %d %q %q %d %d %s)", e.Kind, e.Op, e.Mod, e.Name, e.Value.Type, e.Value.Bits, view(w, e.Kids, w.expr))
}

func (w viewer) stmt(s api.Stmt) string {
	return fmt.Sprintf("s(%d %q %s %s %s)", s.Kind, s.Name, view(w, s.E, w.expr), view(w, s.Body, w.stmt), view(w, s.Else, w.stmt))
}

func (w viewer) param(p api.Param) string {
	return fmt.Sprintf("p(%q %d)", p.Name, p.Type)
}

func (w viewer) decl(d api.Decl) string {
	return fmt.Sprintf("d(%d %t %q %d %s %s %s)", d.Kind, d.Export, d.Name, d.Type, view(w, d.Params, w.param), view(w, d.E, w.expr), view(w, d.Body, w.stmt))
}

func (w viewer) text(s string) string {
	return fmt.Sprintf("%q ", s)
}

func (w viewer) module(m api.Module) string {
	return fmt.Sprintf("m(%q %s %s)", m.Name, view(w, m.Imports, w.text), view(w, m.Decls, w.decl))
}

func view[T any](w viewer, l []T, one func(T) string) string {
	if w {
		l = l[:cap(l)]
	}
	var b strings.Builder
	fmt.Fprintf(&b, "%d[", len(l))
	for _, x := range l {
		b.WriteString(one(x))
	}
	return b.String() + "]"
}

func exprKey(e api.Expr) string {
	return viewer(false).expr(e)
}

func moduleKey(m api.Module) string {
	return viewer(false).module(m)
}

// modelName: names.Right by chapter 4's words.
func modelName(s string) api.Errno {
	for i, c := range []byte(s) {
		first := strings.IndexByte("ABCDEFGHIJKLMNOPQRSTUVWXYZabcdefghijklmnopqrstuvwxyz_", c) >= 0
		if !first && (i == 0 || c < '0' || c > '9') {
			return api.ErrName
		}
	}
	if s == "" {
		return api.ErrName
	}
	if len(s) > 32 {
		return api.ErrBig
	}
	for _, w := range reserved() {
		if w == s {
			return api.ErrName
		}
	}
	return api.OK
}

// first: the first of several answers that is an error.
func first(l ...func() api.Errno) api.Errno {
	for _, ask := range l {
		if e := ask(); e != api.OK {
			return e
		}
	}
	return api.OK
}

func when(wrong bool, e api.Errno) func() api.Errno {
	return func() api.Errno {
		if wrong {
			return e
		}
		return api.OK
	}
}

func nameOf(s string) func() api.Errno {
	return func() api.Errno { return modelName(s) }
}

func each[T any](l []T, ask func(T) api.Errno) func() api.Errno {
	return func() api.Errno {
		for _, x := range l {
			if e := ask(x); e != api.OK {
				return e
			}
		}
		return api.OK
	}
}

// has: a letter for each field that is not zero.
func has(letters string, set ...bool) string {
	var b strings.Builder
	for i, yes := range set {
		if yes {
			b.WriteByte(letters[i])
		}
	}
	return b.String()
}

// beyond: has got a letter that may has not?
func beyond(got, may string) bool {
	return strings.ContainsFunc(got, func(c rune) bool { return !strings.ContainsRune(may, c) })
}

// exprFields: what an expression of each kind may have: Op, Mod, Name, Value, Kids.
func exprFields() map[int]string {
	return map[int]string{api.ELit: "V", api.EName: "N", api.EFar: "MN", api.ECall: "NK", api.EFarCall: "MNK", api.EUn: "OK", api.EBin: "OK", api.EInput: ""}
}

func modelExpr(e api.Expr) api.Errno {
	may, known := exprFields()[e.Kind]
	got := has("OMNVK", e.Op != 0, e.Mod != "", e.Name != "", e.Value != api.Value{}, len(e.Kids) > 0)
	wrong := !known || beyond(got, may)
	switch e.Kind {
	case api.ELit:
		wrong = wrong || !modelLiteral(e.Value)
	case api.EUn:
		wrong = wrong || e.Op < 1 || e.Op > 4 || len(e.Kids) != 1
	case api.EBin:
		wrong = wrong || e.Op < 1 || e.Op > 13 || len(e.Kids) != 2
	}
	return first(when(wrong, api.ErrArg),
		func() api.Errno { return nameIf(may, "M", e.Mod) },
		func() api.Errno { return nameIf(may, "N", e.Name) },
		when(len(e.Kids) > 8, api.ErrBig), each(e.Kids, modelExpr))
}

func nameIf(may, letter, s string) api.Errno {
	if strings.Contains(may, letter) {
		return modelName(s)
	}
	return api.OK
}

func modelLiteral(v api.Value) bool {
	switch v.Type {
	case api.TInt:
		return int64(v.Bits) >= 0
	case api.TFloat:
		f := math.Float64frombits(v.Bits)
		return !math.Signbit(f) && (f == f || v.Bits == floats.NaN)
	case api.TBool:
		return v.Bits == 0 || v.Bits == 1
	}
	return false
}

// stmtFields: what a statement of each kind may have: Name, Body, Else; how many of E, at least and at most.
func stmtFields() map[int]struct {
	may         string
	least, most int
} {
	return map[int]struct {
		may         string
		least, most int
	}{
		api.SLet: {"N", 1, 1}, api.SSet: {"N", 1, 1}, api.SIf: {"BL", 1, 1}, api.SWhile: {"B", 1, 1}, api.SReturn: {"", 0, 1},
		api.SShow: {"", 1, 1}, api.SFail: {"", 1, 1}, api.STry: {"NBL", 0, 0}, api.SDo: {"", 1, 1},
	}
}

func modelStmt(s api.Stmt) api.Errno {
	is, known := stmtFields()[s.Kind]
	got := has("NBL", s.Name != "", len(s.Body) > 0, len(s.Else) > 0)
	wrong := !known || beyond(got, is.may) || len(s.E) < is.least || len(s.E) > is.most
	if !wrong && s.Kind == api.SDo {
		wrong = s.E[0].Kind != api.ECall && s.E[0].Kind != api.EFarCall
	}
	return first(when(wrong, api.ErrArg),
		func() api.Errno { return nameIf(is.may, "N", s.Name) },
		each(s.E, modelExpr), each(s.Body, modelStmt), each(s.Else, modelStmt))
}

func modelDecl(d api.Decl) api.Errno {
	wrong := true
	switch d.Kind {
	case api.DConst, api.DVar:
		wrong = d.Kind == api.DVar && d.Export || d.Type < 1 || d.Type > 3 || len(d.E) != 1 || len(d.Params)+len(d.Body) > 0
	case api.DFn:
		wrong = d.Type < 0 || d.Type > 3 || len(d.E) > 0
	}
	return first(when(modelDeclDepth(d) > 32, api.ErrDeep), when(wrong, api.ErrArg), nameOf(d.Name), when(len(d.Params) > 8, api.ErrBig),
		each(d.Params, func(p api.Param) api.Errno {
			return first(nameOf(p.Name), when(p.Type < 1 || p.Type > 3, api.ErrArg))
		}), each(d.E, modelExpr), each(d.Body, modelStmt))
}

func modelRight(m api.Module) api.Errno {
	return first(nameOf(m.Name), when(len(m.Imports) > 16, api.ErrBig), each(m.Imports, modelName), when(len(m.Decls) > 64, api.ErrBig), each(m.Decls, modelDecl))
}

func modelRightExpr(e api.Expr) api.Errno {
	return first(when(modelExprDepth(e) > 32, api.ErrDeep), func() api.Errno { return modelExpr(e) })
}

// The depth is counted in a text of brackets: `<` where it grows, `>` where it ends.

func deepest(s string) int {
	at, most := 0, 0
	for _, c := range s {
		switch c {
		case '<':
			at++
		case '>':
			at--
		}
		most = max(most, at)
	}
	return most
}

// levels: of the operators of two.
func levels() map[int]int {
	return map[int]int{api.BOr: 1, api.BAnd: 2, api.BEq: 3, api.BNe: 3, api.BLt: 3, api.BLe: 3, api.BGt: 3, api.BGe: 3, api.BAdd: 4, api.BSub: 4, api.BMul: 5, api.BDiv: 5, api.BRem: 5}
}

func modelLevel(e api.Expr) int {
	if l, known := levels()[e.Op]; known && e.Kind == api.EBin {
		return l
	}
	if e.Kind == api.EUn && (e.Op == api.UNeg || e.Op == api.UNot) {
		return 6
	}
	return 7
}

// brackets: an expression as it stands at a level.
func brackets(e api.Expr, least int) string {
	var b strings.Builder
	own := modelLevel(e)
	if own < least {
		b.WriteString("<")
	}
	inner := func(l []api.Expr, least int) string {
		var b strings.Builder
		for _, k := range l {
			b.WriteString(brackets(k, least))
		}
		return b.String()
	}
	grows := e.Kind == api.ECall || e.Kind == api.EFarCall || e.Kind == api.EUn && e.Op >= 1 && e.Op <= 4
	switch {
	case len(e.Kids) == 0:
	case grows && own == 6:
		b.WriteString("<" + inner(e.Kids, 6) + ">")
	case grows:
		b.WriteString("<" + inner(e.Kids, 1) + ">")
	case e.Kind == api.EBin && own < 7:
		left := own
		if own == 3 {
			left = 4
		}
		b.WriteString(inner(e.Kids[:1], left) + inner(e.Kids[1:], own+1))
	default:
		b.WriteString(inner(e.Kids, 1))
	}
	if own < least {
		return b.String() + ">"
	}
	return b.String()
}

func blockBrackets(l []api.Stmt) string {
	var b strings.Builder
	b.WriteString("<")
	for _, s := range l {
		for _, e := range s.E {
			b.WriteString(brackets(e, 1))
		}
		always := s.Kind == api.SIf || s.Kind == api.SWhile || s.Kind == api.STry
		if always || len(s.Body) > 0 {
			b.WriteString(blockBrackets(s.Body))
		}
		if s.Kind == api.STry || len(s.Else) > 0 {
			b.WriteString(blockBrackets(s.Else))
		}
	}
	return b.String() + ">"
}

func declBrackets(d api.Decl) string {
	var b strings.Builder
	for _, e := range d.E {
		b.WriteString(brackets(e, 1))
	}
	if d.Kind == api.DFn || len(d.Body) > 0 {
		b.WriteString(blockBrackets(d.Body))
	}
	return b.String()
}

func modelExprDepth(e api.Expr) int {
	return deepest(brackets(e, 1))
}

func modelDeclDepth(d api.Decl) int {
	return deepest(declBrackets(d))
}

func modelDepth(m api.Module) int {
	most := 0
	for _, d := range m.Decls {
		most = max(most, modelDeclDepth(d))
	}
	return most
}

// The text, by formats.

func modelText(e api.Expr, least int) string {
	own := modelLevel(e)
	if own < least {
		return "(" + modelText(e, 1) + ")"
	}
	list := func() string {
		var args []string
		for _, k := range e.Kids {
			args = append(args, modelText(k, 1))
		}
		return strings.Join(args, ", ")
	}
	switch e.Kind {
	case api.ELit:
		return modelValue(e.Value)
	case api.EName:
		return e.Name
	case api.EFar:
		return e.Mod + "." + e.Name
	case api.ECall:
		return fmt.Sprintf("%s(%s)", e.Name, list())
	case api.EFarCall:
		return fmt.Sprintf("%s.%s(%s)", e.Mod, e.Name, list())
	case api.EUn:
		if own == 6 {
			return fmt.Sprintf("%c%s", "-!"[e.Op-1], modelText(e.Kids[0], 6))
		}
		return fmt.Sprintf("%s(%s)", [...]string{"int", "float"}[e.Op-3], list())
	case api.EBin:
		left := map[bool]int{true: 4, false: own}[own == 3]
		return fmt.Sprintf("%s %s %s", modelText(e.Kids[0], left), marks()[e.Op-1], modelText(e.Kids[1], own+1))
	}
	return "input"
}

// marks: of the operators of two, from BAdd on.
func marks() []string {
	return strings.Fields("+ - * / % == != < <= > >= && ||")
}

func modelValue(v api.Value) string {
	f := math.Float64frombits(v.Bits)
	switch {
	case v.Type == api.TInt:
		return fmt.Sprint(v.Bits)
	case v.Type == api.TBool:
		return fmt.Sprint(v.Bits == 1)
	case f != f:
		return "nan"
	case math.IsInf(f, 1):
		return "inf"
	}
	s := fmt.Sprintf("%x", f) // an exponent has a nought ahead there, if it has one digit
	for _, sign := range []string{"p+0", "p-0"} {
		if mantissa, power, parted := strings.Cut(s, sign); parted && power != "" {
			return mantissa + sign[:2] + power
		}
	}
	return s
}

func modelType(t int) string {
	return [...]string{"", ": int", ": float", ": bool"}[t]
}

func modelBlock(l []api.Stmt, ahead string) string {
	var b strings.Builder
	for _, s := range l {
		e := ""
		if len(s.E) > 0 {
			e = modelText(s.E[0], 1)
		}
		body, other := modelBlock(s.Body, ahead+"  "), modelBlock(s.Else, ahead+"  ")
		text := ""
		switch s.Kind {
		case api.SLet:
			text = fmt.Sprintf("let %s = %s;", s.Name, e)
		case api.SSet:
			text = fmt.Sprintf("%s = %s;", s.Name, e)
		case api.SIf:
			text = fmt.Sprintf("if %s {\n%s%s}", e, body, ahead)
			if other != "" {
				text += fmt.Sprintf(" else {\n%s%s}", other, ahead)
			}
		case api.SWhile:
			text = fmt.Sprintf("while %s {\n%s%s}", e, body, ahead)
		case api.SReturn:
			text = strings.TrimSuffix("return "+e, " ") + ";"
		case api.SShow:
			text = fmt.Sprintf("show %s;", e)
		case api.SFail:
			text = fmt.Sprintf("fail %s;", e)
		case api.STry:
			text = fmt.Sprintf("try {\n%s%s} catch %s {\n%s%s}", body, ahead, s.Name, other, ahead)
		case api.SDo:
			text = e + ";"
		}
		b.WriteString(ahead + text + "\n")
	}
	return b.String()
}

func modelPrint(m api.Module) string {
	var b strings.Builder
	fmt.Fprintf(&b, "module %s;\n", m.Name)
	for _, s := range m.Imports {
		fmt.Fprintf(&b, "import %s;\n", s)
	}
	for _, d := range m.Decls {
		b.WriteString(map[bool]string{true: "export "}[d.Export])
		switch d.Kind {
		case api.DConst:
			fmt.Fprintf(&b, "const %s%s = %s;\n", d.Name, modelType(d.Type), modelText(d.E[0], 1))
		case api.DVar:
			fmt.Fprintf(&b, "var %s%s = %s;\n", d.Name, modelType(d.Type), modelText(d.E[0], 1))
		case api.DFn:
			var l []string
			for _, p := range d.Params {
				l = append(l, p.Name+modelType(p.Type))
			}
			fmt.Fprintf(&b, "fn %s(%s)%s {\n%s}\n", d.Name, strings.Join(l, ", "), modelType(d.Type), modelBlock(d.Body, "  "))
		}
	}
	return b.String()
}

// Nodes and Mods are read off the keys: each part has one letter and a bracket there. (No name of these tests has a bracket.)

func modelNodes(m api.Module) int {
	k := moduleKey(m)
	return strings.Count(k, "d(") + strings.Count(k, "p(") + strings.Count(k, "s(") + strings.Count(k, "e(")
}

// allExprs: each expression of the module, from the outermost on.
func allExprs(m api.Module) []api.Expr {
	var todo, all []api.Expr
	var blocks [][]api.Stmt
	for _, d := range m.Decls {
		todo = append(todo, d.E...)
		blocks = append(blocks, d.Body)
	}
	for len(blocks) > 0 {
		b := blocks[0]
		blocks = blocks[1:]
		for _, s := range b {
			todo = append(todo, s.E...)
			blocks = append(blocks, s.Body, s.Else)
		}
	}
	for len(todo) > 0 {
		e := todo[0]
		todo = append(todo[1:], e.Kids...)
		all = append(all, e)
	}
	return all
}

func modelUses(m api.Module) []string {
	mods := map[string]int{}
	for _, e := range allExprs(m) {
		if e.Kind == api.EFar || e.Kind == api.EFarCall {
			mods[e.Mod]++
		}
	}
	var l []string
	for s := range mods {
		l = append(l, s)
	}
	sort.Strings(l)
	return l
}
