package gen_test

import (
	"fmt"
	"slices"
	"strings"

	"foundry/api"
	"foundry/fold"
	"foundry/types"
)

// model tells the code of a function as lines, with marks where jumps lead to; the numbers of instructions stand in a second step for the marks. A mark is a line that begins with a colon.
type model struct {
	m     api.Module
	l     []api.Iface
	marks int
	slots int
}

// local: a local name, and its slot. Those of an inner block are put behind those of the outer ones, in a list of their own.
type local struct {
	name string
	slot int
}

// modelListing: what listing has to tell of the function, and its Relocs.
func modelListing(m api.Module, l []api.Iface, d api.Decl) string {
	x := &model{m: m, l: l}
	var seen []local
	for _, p := range d.Params {
		seen = append(seen, x.give(p.Name))
	}
	lines := x.block(seen, d.Body)
	if d.Type == api.TNone {
		lines = append(lines, "return")
	}
	return strings.Join(numbered(lines), "; ")
}

// numbered: the lines without marks, and with numbers in the place of their names.
func numbered(lines []string) []string {
	places := map[string]string{}
	n := 0
	for _, line := range lines {
		if strings.HasPrefix(line, ":") {
			places[line] = fmt.Sprint(n)
		} else {
			n++
		}
	}
	var l []string
	for _, line := range lines {
		if strings.HasPrefix(line, ":") {
			continue
		}
		if word, mark, named := strings.Cut(line, " :"); named {
			line = word + " " + places[":"+mark]
		}
		l = append(l, line)
	}
	return l
}

func (x *model) give(name string) local {
	x.slots++
	return local{name, x.slots - 1}
}

func (x *model) mark() string {
	x.marks++
	return fmt.Sprint(":", x.marks)
}

func (x *model) block(seen []local, l []api.Stmt) []string {
	var lines []string
	for _, s := range l {
		lines = append(lines, x.stmt(seen, s)...)
		if s.Kind == api.SLet {
			seen = append(slices.Clone(seen), local{s.Name, x.slots - 1})
		}
	}
	return lines
}

func (x *model) stmt(seen []local, s api.Stmt) []string {
	var e []string
	for _, one := range s.E {
		e = x.expr(seen, one)
	}
	one, two := x.mark(), x.mark()
	switch s.Kind {
	case api.SLet:
		return slices.Concat(e, []string{fmt.Sprint("put ", x.give(s.Name).slot)})
	case api.SSet:
		return append(e, x.to(seen, s.Name))
	case api.SIf:
		body := x.block(seen, s.Body)
		if len(s.Else) == 0 {
			return slices.Concat(e, []string{"unless " + one}, body, []string{one})
		}
		return slices.Concat(e, []string{"unless " + one}, body, []string{"jump " + two, one}, x.block(seen, s.Else), []string{two})
	case api.SWhile:
		return slices.Concat([]string{two}, e, []string{"unless " + one}, x.block(seen, s.Body), []string{"jump " + two, one})
	case api.SReturn:
		return append(e, "return")
	case api.SShow:
		return append(e, "show")
	case api.SFail:
		return append(e, "fail")
	case api.STry:
		body := x.block(seen, s.Body)
		caught := x.give(s.Name)
		second := x.block(append(slices.Clone(seen), caught), s.Else)
		return slices.Concat([]string{"try " + one}, body, []string{"untry", "jump " + two, one, fmt.Sprint("put ", caught.slot)}, second, []string{two})
	}
	if x.result(s.E[0]) != api.TNone {
		e = append(e, "drop")
	}
	return e
}

// to: what a set does with the value.
func (x *model) to(seen []local, name string) string {
	for _, l := range seen {
		if l.name == name {
			return fmt.Sprint("put ", l.slot)
		}
	}
	return "store 0 @" + x.m.Name + "." + name
}

// decl: the own declaration of that name.
func (x *model) decl(name string) api.Decl {
	for _, d := range x.m.Decls {
		if d.Name == name {
			return d
		}
	}
	return api.Decl{}
}

// item: what an import shows under that name.
func (x *model) item(mod, name string) api.Item {
	i, _ := types.Get(first(x.l, mod), name)
	return i
}

func (x *model) result(call api.Expr) int {
	if call.Kind == api.ECall {
		return x.decl(call.Name).Type
	}
	return x.item(call.Mod, call.Name).Type
}

// constant: the value of one of the module, worked out anew.
func (x *model) constant(d api.Decl) api.Value {
	var imports []api.Iface
	for _, name := range x.m.Imports {
		imports = append(imports, first(x.l, name))
	}
	consts, _, _, _ := fold.Decls(x.m, fold.Far(imports))
	for _, c := range consts {
		if c.Name == d.Name {
			return c.Value
		}
	}
	return api.Value{}
}

func (x *model) name(seen []local, name string) string {
	for _, l := range seen {
		if l.name == name {
			return fmt.Sprint("get ", l.slot)
		}
	}
	if d := x.decl(name); d.Kind == api.DConst {
		return "push " + types.Show(x.constant(d))
	}
	return "load 0 @" + x.m.Name + "." + name
}

func (x *model) expr(seen []local, e api.Expr) []string {
	switch e.Kind {
	case api.ELit:
		return []string{"push " + types.Show(e.Value)}
	case api.EName:
		return []string{x.name(seen, e.Name)}
	case api.EFar:
		i := x.item(e.Mod, e.Name)
		return []string{"push " + types.Show(api.Value{Type: i.Type, Bits: i.Bits})}
	case api.EInput:
		return []string{"input"}
	}
	var kids [][]string
	for _, kid := range e.Kids {
		kids = append(kids, x.expr(seen, kid))
	}
	one, two := x.mark(), x.mark()
	switch {
	case e.Kind == api.ECall:
		return append(slices.Concat(kids...), "call 0 @"+x.m.Name+"."+e.Name)
	case e.Kind == api.EFarCall:
		return append(slices.Concat(kids...), "call 0 @"+e.Mod+"."+e.Name)
	case e.Kind == api.EUn:
		return append(kids[0], "un "+[]string{"", "neg", "not", "int", "float"}[e.Op])
	case e.Op == api.BAnd:
		return slices.Concat(kids[0], []string{"unless " + one}, kids[1], []string{"jump " + two, one, "push false", two})
	case e.Op == api.BOr:
		return slices.Concat(kids[0], []string{"unless " + one, "push true", "jump " + two, one}, kids[1], []string{two})
	}
	return append(slices.Concat(kids...), "bin "+strings.Fields("+ - * / % == != < <= > >=")[e.Op-api.BAdd])
}
