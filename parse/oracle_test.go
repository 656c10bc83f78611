package parse_test

import (
	"slices"
	"strings"
	"testing"

	"foundry/api"
	"foundry/lex"
)

// grammarText: as the chapter has it.
const grammarText = `
module   = "module" NAME ";" ( "import" NAME ";" )* decl*
decl     = [ "export" ] "const" NAME ":" type "=" expr ";"
         | "var" NAME ":" type "=" expr ";"
         | [ "export" ] "fn" NAME "(" [ param ( "," param )* ] ")" [ ":" type ] block
param    = NAME ":" type
type     = "int" | "float" | "bool"
block    = "{" stmt* "}"
stmt     = "let" NAME "=" expr ";"
         | "if" expr block [ "else" block ]
         | "while" expr block
         | "return" [ expr ] ";"
         | "show" expr ";"
         | "fail" expr ";"
         | "try" block "catch" NAME block
         | NAME "=" expr ";"
         | NAME "(" args ")" ";"
         | NAME "." NAME "(" args ")" ";"
expr     = and ( "||" and )*
and      = compare ( "&&" compare )*
compare  = sum [ ( "==" | "!=" | "<" | "<=" | ">" | ">=" ) sum ]
sum      = product ( ( "+" | "-" ) product )*
product  = unary ( ( "*" | "/" | "%" ) unary )*
unary    = ( "-" | "!" ) unary | primary
primary  = INT | FLOAT | "true" | "false" | "inf" | "nan" | "input"
         | ( "int" | "float" ) "(" expr ")"
         | NAME [ "(" args ")" ] | NAME "." NAME [ "(" args ")" ]
         | "(" expr ")"
args     = [ expr ( "," expr )* ]
`

// symbol: a rule by its number, or a token: its text, or NAME, INT, FLOAT.
type symbol struct {
	rule  int
	token string
}

// grammar: each rule's ways to be written, with nothing left of what may be left out or repeated but rules of their own.
type grammar struct {
	numbers map[string]int
	ways    [][][]symbol
	empty   []bool // may the rule be nothing?
	words   []string
}

func readGrammar() *grammar {
	g := &grammar{numbers: map[string]int{}, words: strings.Fields(grammarText)}
	for len(g.words) > 0 {
		r := g.rule(g.words[0])
		g.words = g.words[2:]
		g.ways[r] = g.either()
	}
	g.findEmpty()
	return g
}

func (g *grammar) rule(s string) int {
	if r, ok := g.numbers[s]; ok {
		return r
	}
	r := g.unnamed(nil)
	g.numbers[s] = r
	return r
}

func (g *grammar) unnamed(ways [][]symbol) int {
	g.ways = append(g.ways, ways)
	return len(g.ways) - 1
}

// either: ways with bars between, up to what ends them.
func (g *grammar) either() [][]symbol {
	l := [][]symbol{g.sequence()}
	for len(g.words) > 0 && g.words[0] == "|" {
		g.words = g.words[1:]
		l = append(l, g.sequence())
	}
	return l
}

func (g *grammar) sequence() []symbol {
	var l []symbol
	for len(g.words) > 0 && !slices.Contains([]string{"|", ")", ")*", "]"}, g.words[0]) && (len(g.words) < 2 || g.words[1] != "=") {
		l = append(l, g.symbol())
	}
	return l
}

func (g *grammar) symbol() symbol {
	w := g.words[0]
	g.words = g.words[1:]
	switch {
	case w == "(" || w == "[":
		r := g.unnamed(g.either())
		end := g.words[0]
		g.words = g.words[1:]
		if end == "]" {
			g.ways[r] = append(g.ways[r], nil)
		}
		if end == ")*" {
			r = g.repeated(r)
		}
		return symbol{rule: r}
	case w[0] == '"':
		return symbol{rule: -1, token: w[1 : len(w)-1]}
	case strings.ToUpper(w) == w:
		return symbol{rule: -1, token: w}
	case strings.HasSuffix(w, "*"):
		return symbol{rule: g.repeated(g.rule(w[:len(w)-1]))}
	}
	return symbol{rule: g.rule(w)}
}

func (g *grammar) repeated(r int) int {
	all := g.unnamed(nil)
	g.ways[all] = [][]symbol{nil, {{rule: all}, {rule: r}}}
	return all
}

func (g *grammar) findEmpty() {
	g.empty = make([]bool, len(g.ways))
	for changed := true; changed; {
		changed = false
		for r, ways := range g.ways {
			for _, way := range ways {
				if !g.empty[r] && !slices.ContainsFunc(way, func(s symbol) bool { return s.rule < 0 || !g.empty[s.rule] }) {
					g.empty[r], changed = true, true
				}
			}
		}
	}
}

// item: so much of one way of a rule that began at a place was seen.
type item struct{ rule, way, seen, began int }

// chart: by Earley's way, all that the tokens so far may be the beginning of. It knows nothing of how the program goes about it.
type chart struct {
	g     *grammar
	sets  [][]item
	start int
}

func (g *grammar) chart(start string) *chart {
	c := &chart{g: g, start: g.numbers[start]}
	var l []item
	for way := range g.ways[c.start] {
		l = append(l, item{rule: c.start, way: way})
	}
	c.close(l)
	return c
}

// behind: the symbol that an item asks for next.
func (c *chart) behind(i item) (symbol, bool) {
	way := c.g.ways[i.rule][i.way]
	if i.seen == len(way) {
		return symbol{}, false
	}
	return way[i.seen], true
}

// close adds the set that begins with these items, and all that follows from them.
func (c *chart) close(l []item) {
	here := len(c.sets)
	c.sets = append(c.sets, nil)
	known := map[item]bool{}
	add := func(i item) {
		if !known[i] {
			known[i] = true
			c.sets[here] = append(c.sets[here], i)
		}
	}
	for _, i := range l {
		add(i)
	}
	for n := 0; n < len(c.sets[here]); n++ {
		i := c.sets[here][n]
		s, more := c.behind(i)
		switch {
		case !more:
			for _, up := range c.sets[i.began] {
				if s, more := c.behind(up); more && s.rule == i.rule {
					up.seen++
					add(up)
				}
			}
		case s.rule >= 0:
			for way := range c.g.ways[s.rule] {
				add(item{rule: s.rule, way: way, began: here})
			}
			if c.g.empty[s.rule] {
				i.seen++
				add(i)
			}
		}
	}
}

// expected: the tokens with which all so far can go on.
func (c *chart) expected() []string {
	var l []string
	for _, i := range c.sets[len(c.sets)-1] {
		if s, more := c.behind(i); more && s.rule < 0 && !slices.Contains(l, s.token) {
			l = append(l, s.token)
		}
	}
	slices.Sort(l)
	return l
}

// whole: may it end here?
func (c *chart) whole() bool {
	return slices.ContainsFunc(c.sets[len(c.sets)-1], func(i item) bool {
		_, more := c.behind(i)
		return !more && i.rule == c.start && i.began == 0
	})
}

// role: what the grammar calls the token.
func role(t lex.Token) string {
	switch t.Kind {
	case lex.Name:
		return "NAME"
	case lex.Int:
		return "INT"
	case lex.Float:
		return "FLOAT"
	}
	return t.Text
}

// push goes on with the token, if that can be.
func (c *chart) push(t lex.Token) bool {
	var l []item
	for _, i := range c.sets[len(c.sets)-1] {
		if s, more := c.behind(i); more && s.rule < 0 && s.token == role(t) {
			i.seen++
			l = append(l, i)
		}
	}
	if len(l) == 0 {
		return false
	}
	c.close(l)
	return true
}

// modelFault: the place and the error of a text that is to be a module or an expr; 0, OK, if it is one.
func (g *grammar) modelFault(text, start string) (int, api.Errno) {
	tokens, at, e := lex.Lex(text)
	if e != api.OK {
		return at, e
	}
	c := g.chart(start)
	at = len(text)
	e = api.ErrSyntax
	right := 0
	for right < len(tokens) && c.push(tokens[right]) {
		right++
	}
	switch {
	case right < len(tokens):
		at = tokens[right].At
	case c.whole():
		at, e = 0, api.OK
	}
	if i, code := modelLimit(tokens, right); code != api.OK {
		return tokens[i].At, code
	}
	return at, e
}

// frame: what stands open.
type frame struct {
	deep  int    // how much deeper it makes what is in it
	kind  string // "sign", or of what each one counts: "param", "arg", else ""
	count int
}

// limiter counts what stands in one another and beside one another, token by token. It is only asked of tokens that can go on.
type limiter struct {
	tokens         []lex.Token
	open           []frame
	imports, decls int
}

// modelLimit: the first of so many tokens that is too deep or begins one too many.
func modelLimit(tokens []lex.Token, right int) (int, api.Errno) {
	l := &limiter{tokens: tokens}
	for i := range right {
		if e := l.step(i); e != api.OK {
			return i, e
		}
	}
	return 0, api.OK
}

// text: of a token, counted from the first; none beyond the ends.
func (l *limiter) text(i int) string {
	if i < 0 || i >= len(l.tokens) {
		return ""
	}
	return l.tokens[i].Text
}

// ends: does an operand end with the token?
func (l *limiter) ends(i int) bool {
	if i < 0 {
		return false
	}
	switch t := l.tokens[i]; t.Kind {
	case lex.Name, lex.Int, lex.Float:
		return true
	default:
		return slices.Contains([]string{"true", "false", "inf", "nan", "input", ")"}, t.Text)
	}
}

func (l *limiter) top() *frame {
	if len(l.open) == 0 {
		return &frame{}
	}
	return &l.open[len(l.open)-1]
}

func (l *limiter) depth() int {
	n := 0
	for _, f := range l.open {
		n += f.deep
	}
	return n
}

func (l *limiter) step(i int) api.Errno {
	s := l.text(i)
	if l.ends(i-1) && s != "(" && s != "." {
		for l.top().kind == "sign" {
			l.open = l.open[:len(l.open)-1]
		}
	}
	f, opens := l.opened(i)
	if opens && l.depth()+f.deep > 32 {
		return api.ErrDeep
	}
	if l.tooMany(i) {
		return api.ErrBig
	}
	if opens {
		l.open = append(l.open, f)
	}
	if s == ")" || s == "}" {
		l.open = l.open[:len(l.open)-1]
	}
	return api.OK
}

// opened: what the token opens.
func (l *limiter) opened(i int) (frame, bool) {
	switch l.text(i) {
	case "{":
		return frame{deep: 1}, true
	case "!":
		return frame{deep: 1, kind: "sign"}, true
	case "-":
		return frame{deep: 1, kind: "sign"}, !l.ends(i - 1)
	case "(":
		switch {
		case l.text(i-2) == "fn":
			return frame{kind: "param"}, true
		case i > 0 && l.tokens[i-1].Kind == lex.Name && l.text(i+1) == ")":
			return frame{}, true
		case i > 0 && l.tokens[i-1].Kind == lex.Name:
			return frame{deep: 1, kind: "arg"}, true
		}
		return frame{deep: 1}, true
	}
	return frame{}, false
}

// tooMany: does the token begin one too many of something?
func (l *limiter) tooMany(i int) bool {
	switch s := l.text(i); s {
	case "import":
		l.imports++
		return l.imports > 16
	case "export", "const", "var", "fn":
		if l.text(i-1) != "export" {
			l.decls++
		}
		return l.decls > 64
	case ")":
		return false
	}
	before := l.text(i - 1)
	if f := l.top(); (f.kind == "param" || f.kind == "arg") && (before == "(" || before == ",") {
		f.count++
		return f.count > 8
	}
	return false
}

func TestModelOfTheGrammar(t *testing.T) {
	g := readGrammar()
	c := g.chart("module")
	for _, x := range tokensOf(t, fullText) {
		if !c.push(x) {
			t.Fatalf("the model does not take %s at %d", x.Text, x.At)
		}
	}
	if !c.whole() {
		t.Error("the model does not take the whole")
	}
	for _, x := range []struct {
		start, text, want string
	}{
		{"module", "", "module"},
		{"module", "module", "NAME"},
		{"module", "module m;", "const export fn import var"},
		{"module", "module m; export", "const fn"},
		{"module", "module m; fn f(a: int", ") ,"},
		{"module", "module m; fn f(a: int,", "NAME"},
		{"module", "module m; fn f()", ": {"},
		{"module", "module m; fn f() { x", "( . ="},
		{"module", "module m; fn f() { x.y", "("},
		{"module", "module m; fn f() { return;", "NAME fail if let return show try while }"},
		{"expr", "f(", "! ( ) - FLOAT INT NAME false float inf input int nan true"},
		{"expr", "1 < 2", "% && * + - / ||"},
	} {
		c := g.chart(x.start)
		for _, token := range tokensOf(t, x.text) {
			c.push(token)
		}
		if got := strings.Join(c.expected(), " "); got != x.want {
			t.Errorf("behind %q: %s, not %s", x.text, got, x.want)
		}
	}
}
