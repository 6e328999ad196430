package syn

import (
	"slices"
	"strconv"
	"strings"
	"testing"

	"septum/api"
	"septum/bits"
	"septum/lex"
)

// made is a tree that is made at random, and then written.
type made struct {
	kind int
	text string
	bits uint64
	kids []made
}

// laid tells the tree as the chapter lays it out.
func (m made) laid() []api.Node {
	var below []api.Node
	for _, k := range m.kids {
		below = append(below, k.laid()...)
	}
	return append([]api.Node{{Kind: m.kind, N: len(m.kids), Size: 1 + len(below), Text: m.text, Bits: m.bits}}, below...)
}

func (m made) height() int {
	height := 0
	for _, k := range m.kids {
		height = max(height, k.height())
	}
	return height + 1
}

// How tightly nodes hold together, the loosest first; between madeCond and madeUnary the signs of theLevels.
const (
	madeComma  = 0
	madeAssign = 1
	madeCond   = 2
	madeBinary = 3
	madeUnary  = 13
	madePost   = 14
	madeMember = 15
	madeLeaf   = 16
)

func (m made) holds() int {
	switch m.kind {
	case api.NdComma:
		return madeComma
	case api.NdAssign:
		return madeAssign
	case api.NdCond:
		return madeCond
	case api.NdBinary, api.NdLogic:
		return madeBinary + slices.IndexFunc(theLevels, func(some string) bool { return slices.Contains(strings.Fields(some), m.text) })
	case api.NdUnary:
		return madeUnary
	case api.NdUpdate:
		return madeUnary + int(m.bits)
	case api.NdDot, api.NdIndex, api.NdCall, api.NdNew:
		return madeMember
	}
	return madeLeaf
}

// open tells whether an else behind m would be m's.
func (m made) open() bool {
	switch m.kind {
	case api.NdIf:
		return len(m.kids) == 2 || m.kids[2].open()
	case api.NdWhile, api.NdFor:
		return m.kids[len(m.kids)-1].open()
	}
	return false
}

// maker makes trees and writes them as tokens, both by its picks.
type maker struct {
	pick   func(n int) int
	tokens []string
}

func (k *maker) one(words string) string {
	l := strings.Fields(words)
	return l[k.pick(len(l))]
}

func (k *maker) name() string { return k.one("a b c $ _d e0 get undefined eval If") }

func (k *maker) several(most int, item func() made) []made {
	var l []made
	for range k.pick(most + 1) {
		l = append(l, item())
	}
	return l
}

func (k *maker) element(deep int) made {
	if deep > 0 && k.pick(6) == 0 {
		return k.function(api.NdNamed, k.name(), deep-1)
	}
	return k.statement(deep)
}

func (k *maker) function(kind int, name string, deep int) made {
	m := made{kind: kind, text: name, kids: k.several(3, func() made { return made{kind: api.NdParam, text: k.name()} })}
	m.kids = append(m.kids, made{kind: api.NdBody, kids: k.several(3, func() made { return k.element(deep) })})
	return m
}

func (k *maker) block(deep int) made {
	return made{kind: api.NdBlock, kids: k.several(3, func() made { return k.statement(deep) })}
}

func (k *maker) vars(deep int) made {
	decl := func() made {
		m := made{kind: api.NdDecl, text: k.name()}
		if k.pick(2) == 0 {
			m.kids = []made{k.expr(deep)}
		}
		return m
	}
	return made{kind: api.NdVar, kids: append(k.several(2, decl), decl())}
}

func (k *maker) statement(deep int) made {
	kinds := []int{api.NdEmpty, api.NdBreak, api.NdContinue, api.NdReturn}
	if deep > 0 {
		kinds = []int{api.NdBlock, api.NdVar, api.NdExpr, api.NdExpr, api.NdIf, api.NdIf, api.NdWhile, api.NdDo, api.NdFor, api.NdReturn, api.NdThrow, api.NdTry}
	}
	deep--
	statement, expr := func() made { return k.statement(deep) }, func() made { return k.expr(deep) }
	m := made{kind: kinds[k.pick(len(kinds))]}
	switch m.kind {
	case api.NdBlock:
		return k.block(deep)
	case api.NdVar:
		return k.vars(deep)
	case api.NdExpr, api.NdThrow:
		m.kids = []made{expr()}
	case api.NdReturn:
		m.kids = k.several(1, expr)
	case api.NdIf:
		m.kids = []made{expr(), statement()}
		if k.pick(2) == 0 {
			if m.kids[1].open() {
				m.kids[1] = made{kind: api.NdBlock, kids: []made{m.kids[1]}}
			}
			m.kids = append(m.kids, statement())
		}
	case api.NdWhile:
		m.kids = []made{expr(), statement()}
	case api.NdDo:
		m.kids = []made{statement(), expr()}
	case api.NdFor:
		nothing := made{kind: api.NdEmpty}
		start := []made{nothing, k.vars(deep), {kind: api.NdExpr, kids: []made{expr()}}}
		m.kids = []made{start[k.pick(3)], []made{nothing, expr()}[k.pick(2)], []made{nothing, expr()}[k.pick(2)], statement()}
	case api.NdTry:
		m.kids = []made{k.block(deep)}
		which := k.pick(3)
		if which != 0 {
			m.kids = append(m.kids, made{kind: api.NdCatch, text: k.name(), kids: []made{k.block(deep)}})
		}
		if which != 1 {
			m.kids = append(m.kids, made{kind: api.NdFinal, kids: []made{k.block(deep)}})
		}
	}
	return m
}

func (k *maker) target(deep int) made {
	kinds := []int{api.NdId, api.NdDot, api.NdIndex}
	return k.exprOf(kinds[k.pick(3)], deep)
}

func (k *maker) expr(deep int) made {
	if deep <= 0 {
		return k.exprOf([]int{api.NdNum, api.NdText, api.NdTrue, api.NdFalse, api.NdNull, api.NdThis, api.NdId}[k.pick(7)], 0)
	}
	return k.exprOf([]int{api.NdArray, api.NdObject, api.NdFunc, api.NdDot, api.NdIndex, api.NdCall, api.NdNew, api.NdUnary, api.NdUpdate, api.NdBinary, api.NdBinary, api.NdLogic, api.NdCond, api.NdAssign, api.NdComma, api.NdId}[k.pick(16)], deep)
}

func (k *maker) exprOf(kind, deep int) made {
	deep--
	expr := func() made { return k.expr(deep) }
	m := made{kind: kind}
	switch kind {
	case api.NdNum:
		m.bits = bits.Of(k.pick(1 << k.pick(54)))
	case api.NdText:
		m.text = k.one("a ; ( } if ++ 7 \\ ' \" \u00e9") + []string{"", "\n"}[k.pick(2)]
	case api.NdId:
		m.text = k.name()
	case api.NdArray:
		m.kids = k.several(3, expr)
	case api.NdObject:
		m.kids = k.several(3, func() made {
			return made{kind: api.NdProp, text: k.one("a if this 0 31 9007199254740992 1.5 a-b ( \u00e9 'q"), kids: []made{expr()}}
		})
	case api.NdFunc:
		return k.function(kind, []string{"", k.name()}[k.pick(2)], deep)
	case api.NdDot:
		m.text, m.kids = k.one("a b if this new prototype"), []made{expr()}
	case api.NdIndex, api.NdComma:
		m.kids = []made{expr(), expr()}
	case api.NdCall, api.NdNew:
		m.kids = append([]made{expr()}, k.several(3, expr)...)
	case api.NdUnary:
		m.text, m.kids = k.one("delete void typeof + - ~ !"), []made{expr()}
	case api.NdUpdate:
		m.text, m.bits, m.kids = k.one("++ --"), uint64(k.pick(2)), []made{k.target(deep)}
	case api.NdBinary:
		m.text, m.kids = k.one(strings.Join(theLevels[2:], " ")), []made{expr(), expr()}
	case api.NdLogic:
		m.text, m.kids = k.one("|| &&"), []made{expr(), expr()}
	case api.NdCond:
		m.kids = []made{expr(), expr(), expr()}
	case api.NdAssign:
		m.text, m.kids = k.one("= += -= *= /= %= &= |= ^= <<= >>= >>>="), []made{k.target(deep), expr()}
	}
	return m
}

func (k *maker) put(tokens ...string) { k.tokens = append(k.tokens, tokens...) }

// text puts a text between either quotes.
func (k *maker) text(s string) {
	q := lex.Print(api.Token{Kind: api.TkText, Text: s})
	if inner := q[1 : len(q)-1]; k.pick(2) == 0 && !strings.ContainsAny(s, `'"`) {
		q = "'" + inner + "'"
	}
	k.put(q)
}

func (k *maker) all(l []made) {
	for _, m := range l {
		k.write(m)
	}
}

// row puts expressions, props or params, with commas between.
func (k *maker) row(l []made) {
	for i, m := range l {
		if i > 0 {
			k.put(",")
		}
		switch m.kind {
		case api.NdParam:
			k.put(m.text)
		case api.NdDecl:
			k.put(m.text)
			if len(m.kids) > 0 {
				k.put("=")
				k.at(m.kids[0], madeAssign)
			}
		case api.NdProp:
			k.key(m.text)
			k.at(m.kids[0], madeAssign)
		default:
			k.at(m, madeAssign)
		}
	}
}

func (k *maker) key(s string) {
	if n, e := strconv.Atoi(s); e == nil && k.pick(2) == 0 {
		k.put([]string{s, "0x" + strconv.FormatInt(int64(n), 16)}[k.pick(2)])
	} else if (lex.Name(s) || lex.Word(s)) && k.pick(2) == 0 {
		k.put(s)
	} else {
		k.text(s)
	}
	k.put(":")
}

// at puts an expression where one that holds together at least that tightly has to stand; sometimes between more brackets than it needs.
func (k *maker) at(m made, least int) {
	if m.holds() < least || k.pick(8) == 0 {
		k.put("(")
		k.at(m, madeComma)
		k.put(")")
		return
	}
	k.expression(m)
}

// bare puts an expression that a statement begins with.
func (k *maker) bare(m made) {
	at := len(k.tokens)
	k.at(m, madeComma)
	if first := k.tokens[at]; first == "{" || first == "function" {
		k.tokens = slices.Insert(k.tokens, at, "(")
		k.put(")")
	}
}

func (k *maker) expression(m made) {
	holds := m.holds()
	switch m.kind {
	case api.NdNum:
		k.put(bits.Text(m.bits))
	case api.NdText:
		k.text(m.text)
	case api.NdTrue, api.NdFalse, api.NdNull, api.NdThis:
		k.put(strings.ToLower(kindNames[m.kind]))
	case api.NdId:
		k.put(m.text)
	case api.NdArray:
		k.put("[")
		k.row(m.kids)
		k.put("]")
	case api.NdObject:
		k.put("{")
		k.row(m.kids)
		k.put("}")
	case api.NdFunc:
		k.signature(m)
	case api.NdDot:
		k.at(m.kids[0], madeMember)
		k.put(".", m.text)
	case api.NdIndex:
		k.at(m.kids[0], madeMember)
		k.put("[")
		k.at(m.kids[1], madeComma)
		k.put("]")
	case api.NdCall:
		k.at(m.kids[0], madeMember)
		k.args(m.kids[1:])
	case api.NdNew:
		k.put("new")
		k.callee(m.kids[0])
		k.args(m.kids[1:])
	case api.NdUnary:
		k.put(m.text)
		k.at(m.kids[0], madeUnary)
	case api.NdUpdate:
		if m.bits == 0 {
			k.put(m.text)
		}
		k.at(m.kids[0], madeMember)
		if m.bits == 1 {
			k.put(m.text)
		}
	case api.NdBinary, api.NdLogic:
		k.at(m.kids[0], holds)
		k.put(m.text)
		k.at(m.kids[1], holds+1)
	case api.NdCond:
		k.at(m.kids[0], madeBinary)
		k.put("?")
		k.at(m.kids[1], madeAssign)
		k.put(":")
		k.at(m.kids[2], madeAssign)
	case api.NdAssign:
		k.at(m.kids[0], madeMember)
		k.put(m.text)
		k.at(m.kids[1], madeAssign)
	case api.NdComma:
		k.at(m.kids[0], madeComma)
		k.put(",")
		k.at(m.kids[1], madeAssign)
	}
}

func (k *maker) args(l []made) {
	k.put("(")
	k.row(l)
	k.put(")")
}

// callee puts what stands behind new: another new, or parts of a primary.
func (k *maker) callee(m made) {
	if m.kind == api.NdNew {
		k.expression(m)
		return
	}
	k.parts(m)
}

func (k *maker) parts(m made) {
	switch {
	case m.kind == api.NdDot:
		k.parts(m.kids[0])
		k.put(".", m.text)
	case m.kind == api.NdIndex:
		k.parts(m.kids[0])
		k.put("[")
		k.at(m.kids[1], madeComma)
		k.put("]")
	default:
		k.at(m, madeLeaf)
	}
}

func (k *maker) signature(m made) {
	k.put("function")
	if m.text != "" {
		k.put(m.text)
	}
	last := len(m.kids) - 1
	k.args(m.kids[:last])
	k.write(m.kids[last])
}

func (k *maker) bracketed(m made) {
	k.put("(")
	k.at(m, madeComma)
	k.put(")")
}

func (k *maker) write(m made) {
	switch m.kind {
	case api.NdProgram:
		k.all(m.kids)
	case api.NdNamed:
		k.signature(m)
	case api.NdBlock, api.NdBody:
		k.put("{")
		k.all(m.kids)
		k.put("}")
	case api.NdVar:
		k.put("var")
		k.row(m.kids)
		k.put(";")
	case api.NdEmpty:
		k.put(";")
	case api.NdExpr:
		k.bare(m.kids[0])
		k.put(";")
	case api.NdIf:
		k.put("if")
		k.bracketed(m.kids[0])
		k.write(m.kids[1])
		if len(m.kids) == 3 {
			k.put("else")
			k.write(m.kids[2])
		}
	case api.NdWhile:
		k.put("while")
		k.bracketed(m.kids[0])
		k.write(m.kids[1])
	case api.NdDo:
		k.put("do")
		k.write(m.kids[0])
		k.put("while")
		k.bracketed(m.kids[1])
		k.put(";")
	case api.NdFor:
		k.head(m.kids)
		k.write(m.kids[3])
	case api.NdBreak, api.NdContinue, api.NdReturn, api.NdThrow:
		k.put(strings.ToLower(kindNames[m.kind]))
		if len(m.kids) > 0 {
			k.at(m.kids[0], madeComma)
		}
		k.put(";")
	case api.NdTry:
		k.put("try")
		k.all(m.kids)
	case api.NdCatch:
		k.put("catch", "(", m.text, ")")
		k.all(m.kids)
	case api.NdFinal:
		k.put("finally")
		k.all(m.kids)
	}
}

// head puts what stands ahead of a for's statement.
func (k *maker) head(l []made) {
	k.put("for", "(")
	if l[0].kind == api.NdExpr {
		k.at(l[0].kids[0], madeComma)
		k.put(";")
	} else {
		k.write(l[0])
	}
	for i, end := range []string{";", ")"} {
		if l[i+1].kind != api.NdEmpty {
			k.at(l[i+1], madeComma)
		}
		k.put(end)
	}
}

// source puts blanks and remarks between the tokens, of which some need none.
func (k *maker) source() string {
	var out strings.Builder
	for i, x := range k.tokens {
		between := []string{" ", "\n", "\t\r\n", "/**/", " /* ; ( */ ", "// ' }\n", "//\n"}[k.pick(7)]
		if i > 0 && k.tokens[i-1] == "/" {
			// A remark right behind it would be read another way.
			between = " " + between
		}
		if i > 0 && k.pick(2) == 0 {
			glued, _, e := lex.Tokens(k.tokens[i-1] + x)
			if e == api.OK && len(glued) == 2 && glued[1].At == len(k.tokens[i-1]) {
				between = ""
			}
		}
		if i > 0 || k.pick(4) == 0 {
			out.WriteString(between)
		}
		out.WriteString(x)
	}
	return out.String()
}

// plain tells the tokens with one blank between.
func (k *maker) plain() string { return strings.Join(k.tokens, " ") }

// program makes a tree that is not too high, and its tokens.
func (k *maker) program(deep, most int) made {
	for {
		m := made{kind: api.NdProgram, kids: k.several(most, func() made { return k.element(deep) })}
		k.tokens = nil
		k.write(m)
		if m.height() <= api.MaxDepth && len(k.plain()) <= api.MaxSource {
			return m
		}
	}
}

func TestWhatIsWrittenIsParsed(t *testing.T) {
	k, met := &maker{pick: some()}, map[int]bool{}
	for range 6000 {
		m := k.program(1+k.pick(6), 4)
		want := m.laid()
		for _, s := range []string{k.plain(), k.source(), k.source()} {
			if len(s) > api.MaxSource {
				continue
			}
			l, at, e := Parse(s)
			if !slices.Equal(l, want) || at != 0 || e != api.OK {
				t.Fatalf("%q: %v, %d, %d, not %v", s, l, at, int(e), want)
			}
		}
		if Height(want) != m.height() {
			t.Fatalf("%s: height %d, not %d", k.plain(), Height(want), m.height())
		}
		holdsKids(t, m, want)
		for _, n := range want {
			met[n.Kind] = true
		}
	}
	if len(met) != len(kindNames)-1 {
		t.Error("kinds that were met", met)
	}
}

// holdsKids holds that Kids tells, of each node, the places of those that were laid.
func holdsKids(t *testing.T, m made, l []api.Node) {
	t.Helper()
	at := 0
	var check func(m made)
	check = func(m made) {
		i := at
		at++
		var want []int
		for _, k := range m.kids {
			want = append(want, at)
			check(k)
		}
		if k := Kids(l, i); !slices.Equal(k, want) {
			t.Fatalf("%v, %d: %v, not %v", l, i, k, want)
		}
	}
	check(m)
}

func TestProgramsBehindOneAnother(t *testing.T) {
	k := &maker{pick: some()}
	for range 5000 {
		first := k.program(1+k.pick(4), 3)
		ahead := k.source()
		second := k.program(1+k.pick(4), 3)
		behind := k.source()
		if len(ahead+behind) > api.MaxSource {
			continue
		}
		both := made{kind: api.NdProgram, kids: append(first.kids, second.kids...)}
		if l, at, e := Parse(ahead + behind); !slices.Equal(l, both.laid()) || at != 0 || e != api.OK {
			t.Fatalf("%s%s: %v, %d, %d", ahead, behind, l, at, int(e))
		}
	}
}

// A program that ends too soon is refused at its end, and nowhere else, as long as no ++ or -- stands ahead of what it changes.
func TestProgramsThatEndTooSoon(t *testing.T) {
	k := &maker{pick: some()}
	for range 2000 {
		k.program(1+k.pick(4), 3)
		for i := range k.tokens {
			s := strings.Join(k.tokens[:i], " ")
			l, at, e := Parse(s)
			ended := e == api.ErrSyntax && l == nil && (at == len(s) || strings.HasPrefix(s[at:], "++") || strings.HasPrefix(s[at:], "--"))
			if e != api.OK && !ended {
				t.Fatalf("%s: %v, %d, %d", s, l, at, int(e))
			}
		}
	}
}
