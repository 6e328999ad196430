package syn

import (
	"slices"
	"strings"
	"testing"

	"septum/api"
	"septum/lex"
)

// The chapter's grammar, in its own notation, but for what it says beside it: an expr that a statement begins
// with is one of the plain ones, which begin neither with { nor with function; what may be assigned to is a
// target; a new without arguments is bare, if parts and arguments that stand behind it are its own; of the
// signs between operands it matters here only that there are some.
const theGrammar = `
program = {element}
element = 'function' NAME '(' [NAME {',' NAME}] ')' '{' {element} '}' | statement
block = '{' {statement} '}'
statement = block | 'var' decls ';' | ';' | plain ';'
statement = 'if' '(' expr ')' statement ['else' statement]
statement = 'while' '(' expr ')' statement
statement = 'do' statement 'while' '(' expr ')' ';'
statement = 'for' '(' ['var' decls | expr] ';' [expr] ';' [expr] ')' statement
statement = 'break' ';' | 'continue' ';' | 'return' [expr] ';' | 'throw' expr ';'
statement = 'try' block catch | 'try' block [catch] 'finally' block
catch = 'catch' '(' NAME ')' block
decls = decl {',' decl}
decl = NAME ['=' assign]
expr = assign {',' assign}
assign = binary ['?' assign ':' assign] | target OP assign
binary = unary {BETWEEN unary}
unary = AHEAD unary | CHANGE target | target [CHANGE] | other | bare
target = NAME | '(' target ')' | member '.' KEY | member '[' expr ']'
member = target | other
other = member args | full | literal | '{' [prop {',' prop}] '}' | func | '(' expr ')'
args = '(' [assign {',' assign}] ')'
bare = 'new' parts | 'new' bare
full = 'new' parts args | 'new' bare args | 'new' full [args]
parts = primary {'.' KEY | '[' expr ']'}
primary = NAME | literal | '{' [prop {',' prop}] '}' | func | '(' expr ')'
literal = NUM | TEXT | 'this' | 'null' | 'true' | 'false' | '[' [assign {',' assign}] ']'
prop = KEY ':' assign | TEXT ':' assign | NUM ':' assign
func = 'function' [NAME] '(' [NAME {',' NAME}] ')' '{' {element} '}'
plain = plainassign {',' assign}
plainassign = plainbinary ['?' assign ':' assign] | plaintarget OP assign
plainbinary = plainunary {BETWEEN unary}
plainunary = AHEAD unary | CHANGE target | plaintarget [CHANGE] | plainother | bare
plaintarget = NAME | '(' target ')' | plainmember '.' KEY | plainmember '[' expr ']'
plainmember = plaintarget | plainother
plainother = plainmember args | full | literal | '(' expr ')'
`

// rule says that left may be made of right.
type rule struct {
	left  string
	right []string
}

// grammar is rules by what they make; nothing tells what may be made of nothing.
type grammar struct {
	rules   map[string][]int
	all     []rule
	nothing map[string]bool
}

func newGrammar() *grammar {
	g := &grammar{rules: map[string][]int{}, nothing: map[string]bool{}}
	for _, line := range strings.Split(strings.TrimSpace(theGrammar), "\n") {
		left, right, _ := strings.Cut(line, " = ")
		// Single signs that are brackets of the notation stand apart from what they are about.
		for _, b := range []string{"{", "}", "[", "]"} {
			right = strings.ReplaceAll(right, b, " "+b+" ")
			right = strings.ReplaceAll(right, "' "+b+" '", "'"+b+"'")
		}
		words := strings.Fields(right)
		if rest := g.choice(left, words); len(rest) > 0 {
			panic(line)
		}
	}
	for changed := true; changed; {
		changed = false
		for _, r := range g.all {
			if !g.nothing[r.left] && !slices.ContainsFunc(r.right, func(x string) bool { return !g.nothing[x] }) {
				g.nothing[r.left], changed = true, true
			}
		}
	}
	return g
}

func (g *grammar) add(left string, right ...string) {
	g.rules[left] = append(g.rules[left], len(g.all))
	g.all = append(g.all, rule{left, right})
}

// choice reads rules for left off words, up to what closes them, and tells the words from there on.
func (g *grammar) choice(left string, words []string) []string {
	var right []string
	for len(words) > 0 && words[0] != "}" && words[0] != "]" {
		x := words[0]
		words = words[1:]
		switch x {
		case "|":
			g.add(left, right...)
			right = nil
		case "[", "{":
			part := left + "+" + x + strings.Repeat("'", len(g.all)) + x
			words = g.choice(part, words)[1:]
			some := part + "*"
			g.add(some)
			if x == "[" {
				g.add(some, part)
			} else {
				g.add(some, some, part)
			}
			right = append(right, some)
		default:
			right = append(right, x)
		}
	}
	g.add(left, right...)
	return words
}

// item says that of a rule so much was met, from so many tokens on.
type item struct{ rule, met, from int }

// chart is all items that go with the tokens that were met, one set behind each.
type chart struct {
	g    *grammar
	sets [][]item
}

func (g *grammar) begin() chart {
	var first []item
	for _, r := range g.rules["program"] {
		first = append(first, item{rule: r})
	}
	return chart{g, [][]item{g.closed(nil, first)}}
}

func (g *grammar) next(i item) string {
	if r := g.all[i.rule].right; i.met < len(r) {
		return r[i.met]
	}
	return ""
}

// closed adds to a set that stands behind sets all that goes with it.
func (g *grammar) closed(sets [][]item, set []item) []item {
	seen := map[item]bool{}
	for _, i := range set {
		seen[i] = true
	}
	add := func(i item) {
		if !seen[i] {
			seen[i] = true
			set = append(set, i)
		}
	}
	for at := 0; at < len(set); at++ {
		i := set[at]
		x := g.next(i)
		if x == "" && i.from < len(sets) {
			for _, above := range sets[i.from] {
				if g.next(above) == g.all[i.rule].left {
					add(item{above.rule, above.met + 1, above.from})
				}
			}
		}
		for _, r := range g.rules[x] {
			add(item{r, 0, len(sets)})
		}
		if g.nothing[x] {
			add(item{i.rule, i.met + 1, i.from})
		}
	}
	return set
}

// stands tells whether a token may stand where the grammar has x.
func stands(t api.Token, x string) bool {
	sign := t.Kind == api.TkSign || t.Kind == api.TkWord
	in := func(some string) bool { return sign && slices.Contains(strings.Fields(some), t.Text) }
	switch x {
	case "NAME":
		return t.Kind == api.TkName
	case "KEY":
		return t.Kind == api.TkName || t.Kind == api.TkWord
	case "NUM":
		return t.Kind == api.TkNum
	case "TEXT":
		return t.Kind == api.TkText
	case "OP":
		return in("= += -= *= /= %= &= |= ^= <<= >>= >>>=")
	case "BETWEEN":
		return in(strings.Join(theLevels, " "))
	case "AHEAD":
		return in("delete void typeof + - ~ !")
	case "CHANGE":
		return in("++ --")
	}
	return sign && x == "'"+t.Text+"'"
}

// goOn tells the chart behind one more token, and whether there is one.
func (c chart) goOn(t api.Token) (chart, bool) {
	var set []item
	for _, i := range c.sets[len(c.sets)-1] {
		if x := c.g.next(i); x != "" && stands(t, x) {
			set = append(set, item{i.rule, i.met + 1, i.from})
		}
	}
	if set == nil {
		return c, false
	}
	sets := slices.Clip(c.sets)
	return chart{c.g, append(sets, c.g.closed(sets, set))}, true
}

// goes tells whether any program goes on with that token.
func (c chart) goes(t api.Token) bool {
	return slices.ContainsFunc(c.sets[len(c.sets)-1], func(i item) bool {
		x := c.g.next(i)
		return x != "" && stands(t, x)
	})
}

// whole tells whether what was met is a program.
func (c chart) whole() bool {
	return slices.ContainsFunc(c.sets[len(c.sets)-1], func(i item) bool {
		return i.from == 0 && c.g.all[i.rule].left == "program" && c.g.next(i) == ""
	})
}

// holdsAll holds Parse of the tokens ahead, of them and each of some, and of some more behind it, against the chart of those ahead.
func holdsAll(t *testing.T, c chart, ahead string, some []api.Token) {
	t.Helper()
	if _, at, e := Parse(ahead); c.whole() != (e == api.OK) || e != api.OK && (at != len(ahead) || e != api.ErrSyntax) {
		t.Fatalf("Parse(%q): %d, %d", ahead, at, int(e))
	}
	for _, x := range some {
		s := ahead + " " + lex.Print(x)
		for _, behind := range []string{"", ";", " a", " )"} {
			if _, at, e := Parse(s + behind); !c.goes(x) && (at != len(ahead)+1 || e != api.ErrSyntax) || c.goes(x) && at == len(ahead)+1 {
				t.Fatalf("Parse(%q): %d, %d, goes on: %t", s+behind, at, int(e), c.goes(x))
			}
		}
	}
}

func tokensOf(t *testing.T, s string) []api.Token {
	l, _, e := lex.Tokens(s)
	if e != api.OK {
		t.Fatal(s)
	}
	return l
}

// All sources of a few of these tokens, of which none is refused ahead of its last one. (A ++ or -- ahead is told by its own place; those have tests of their own.)
func TestAllSourcesOfFewTokens(t *testing.T) {
	some := tokensOf(t, "a 1 'b' { } ( ) [ ] . ; , ? : = - / || new this function var if else for try catch return in typeof")
	var grow func(c chart, ahead string, more int)
	grow = func(c chart, ahead string, more int) {
		holdsAll(t, c, ahead, some)
		if more == 0 {
			return
		}
		for _, x := range some {
			if longer, ok := c.goOn(x); ok {
				grow(longer, strings.TrimSpace(ahead+" "+lex.Print(x)), more-1)
			}
		}
	}
	grow(newGrammar().begin(), "", 3)
}

// Longer sources, each of which goes on at random with what may stand there; all tokens are tried at each step.
func TestLongerSources(t *testing.T) {
	each := tokensOf(t, "a b $ 1 0x1F 'c' ''")
	for _, x := range strings.Fields("{ } ( ) [ ] . ; , ? : ~ < > <= >= === !== + - * / % ++ -- << >> >>> & | ^ ! && || = += -= *= /= %= &= |= ^= <<= >>= >>>= " + theWords) {
		each = append(each, tokensOf(t, x)...)
	}
	g, pick, not := newGrammar(), some(), tokensOf(t, "!")[0]
	for range 100 {
		c, ahead := g.begin(), ""
		for range 2 + pick(24) {
			holdsAll(t, c, ahead, each)
			// What a ++ changes that stands ahead is only known at its end.
			goes := slices.DeleteFunc(slices.Clone(each), func(x api.Token) bool {
				return !c.goes(x) || stands(x, "CHANGE") && c.goes(not)
			})
			if len(goes) == 0 {
				t.Fatalf("%q: nothing goes on", ahead)
			}
			x := goes[pick(len(goes))]
			c, _ = c.goOn(x)
			ahead = strings.TrimSpace(ahead + " " + lex.Print(x))
		}
	}
}
