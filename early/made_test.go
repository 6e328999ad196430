package early

import (
	"strconv"
	"strings"
)

// maker makes sources that have a tree, by its picks. Of what may not be said it says the less, the greater
// clean is; what may be said in one place alone it says wherever it likes, if it says so at all.
type maker struct {
	pick  func(n int) int
	clean int
}

// where is what the maker knows of the place that it is at.
type where struct {
	deep     int
	loop, in bool // in a loop; in a function
}

func (w where) down() where { return where{w.deep - 1, w.loop, w.in} }

func (k maker) slips() bool { return k.pick(k.clean) == 0 }

func (k maker) one(words ...string) string { return words[k.pick(len(words))] }

func (k maker) name() string {
	if k.slips() {
		return k.one("eval", "arguments")
	}
	return k.one("a", "b", "c", "d", "evals", "Arguments")
}

func (k maker) several(most int, between string, item func() string) string {
	l := make([]string, k.pick(most+1))
	for i := range l {
		l[i] = item()
	}
	return strings.Join(l, between)
}

// names tells names of which none stands there twice, but by a slip.
func (k maker) names(item func(i int) string) string {
	l := make([]string, k.pick(4))
	for i := range l {
		l[i] = item(i)
		if k.slips() {
			l[i] = item(0)
		}
	}
	return strings.Join(l, ", ")
}

func (k maker) params() string {
	return k.names(func(i int) string {
		if k.slips() {
			return k.name()
		}
		return []string{"a", "b", "c", "d"}[i]
	})
}

func (k maker) function(name string, w where) string {
	return "function " + name + "(" + k.params() + ") {" + k.elements(where{w.deep - 1, false, true}) + "}"
}

func (k maker) elements(w where) string {
	return k.several(3, " ", func() string {
		if w.deep > 0 && k.pick(4) == 0 {
			return k.function(k.name(), w)
		}
		return k.statement(w)
	})
}

func (k maker) block(w where) string {
	return "{" + k.several(3, " ", func() string { return k.statement(w) }) + "}"
}

func (k maker) vars(w where) string {
	l := k.name() + k.one("", " = "+k.expr(w))
	for range k.pick(3) {
		l += ", " + k.name() + k.one("", " = "+k.expr(w))
	}
	return "var " + l
}

func (k maker) statement(w where) string {
	if w.deep <= 0 {
		return ";"
	}
	loop := where{w.deep - 1, true, w.in}
	w = w.down()
	switch k.pick(12) {
	case 0:
		return k.block(w)
	case 1, 2:
		return k.vars(w) + ";"
	case 3:
		return "if (" + k.expr(w) + ") " + k.block(w) + k.one("", " else "+k.statement(w))
	case 4:
		return "while (" + k.expr(w) + ") " + k.statement(loop)
	case 5:
		return "do " + k.statement(loop) + " while (" + k.expr(w) + ");"
	case 6:
		return "for (" + k.one("", k.vars(w), "a = "+k.expr(w)) + ";" + k.one("", k.expr(w)) + ";" + k.one("", k.expr(w)) + ") " + k.statement(loop)
	case 7:
		if w.in || k.slips() {
			return "return" + k.one("", " "+k.expr(w)) + ";"
		}
	case 8, 9:
		if w.loop || k.slips() {
			return k.one("break;", "continue;")
		}
	case 10:
		catch, final := " catch ("+k.name()+") "+k.block(w), " finally "+k.block(w)
		return "try " + k.block(w) + k.one(catch, final, catch+final)
	}
	return k.one("throw ", "") + k.expr(w) + ";"
}

func (k maker) expr(w where) string {
	if w.deep <= 0 {
		return k.one(k.name(), k.name(), "1", "'eval'", "this")
	}
	w = w.down()
	switch k.pick(10) {
	case 0, 1:
		return "(" + k.function(k.one("", k.name()), w) + ")"
	case 2, 3:
		return "({" + k.names(func(i int) string {
			return []string{"a", "eval", "'b'", "1"}[i] + ": " + k.expr(w)
		}) + "})"
	case 4:
		if k.slips() {
			return "delete " + k.name()
		}
		return "delete (" + k.expr(w) + ")." + k.one("eval", "if", "a")
	case 5:
		return k.one("typeof ", "void ", "!", "- ") + "(" + k.expr(w) + ")"
	case 6:
		return "(" + k.name() + " = " + k.expr(w) + ")"
	case 7:
		return "a(" + k.several(3, ", ", func() string { return k.expr(w) }) + ")"
	case 8:
		return "(" + k.expr(w) + k.one(" + ", " && ", ", ") + k.expr(w) + ")"
	}
	return k.name() + k.one(".eval", ".arguments", "["+k.expr(w)+"]", "++")
}

func many(n int, prefix string) []string {
	l := make([]string, n)
	for i := range l {
		l[i] = prefix + strconv.Itoa(i)
	}
	return l
}
