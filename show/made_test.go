package show

import (
	"math/rand"
	"strings"

	"septum/api"
	"septum/bits"
)

// made is a tree as it is made for a test, ahead of being laid out.
type made struct {
	kind int
	text string
	bits uint64
	kids []made
}

func nd(kind int, text string, kids ...made) made {
	return made{kind: kind, text: text, kids: kids}
}

func num(n int) made { return made{kind: api.NdNum, bits: bits.Of(n)} }

func id(name string) made { return nd(api.NdId, name) }

func (m made) laid() []api.Node {
	l := []api.Node{{Kind: m.kind, N: len(m.kids), Text: m.text, Bits: m.bits}}
	for _, k := range m.kids {
		l = append(l, k.laid()...)
	}
	l[0].Size = len(l)
	return l
}

func (m made) height() int {
	height := 0
	for _, k := range m.kids {
		height = max(height, k.height())
	}
	return height + 1
}

// open is the chapter's word of a statement.
func (m made) open() bool {
	switch m.kind {
	case api.NdIf, api.NdWhile, api.NdFor:
		return m.kind == api.NdIf && len(m.kids) == 2 || m.kids[len(m.kids)-1].open()
	}
	return false
}

// least tells a node of each kind that has as little as it may have.
func least(kind int) made {
	yes, empty, block, body := nd(api.NdTrue, ""), nd(api.NdEmpty, ""), nd(api.NdBlock, ""), nd(api.NdBody, "")
	switch kind {
	case api.NdVar:
		return nd(kind, "", nd(api.NdDecl, "a"))
	case api.NdDecl, api.NdParam, api.NdId:
		return nd(kind, "a")
	case api.NdExpr, api.NdThrow:
		return nd(kind, "", yes)
	case api.NdIf:
		return nd(kind, "", yes, empty, empty)
	case api.NdWhile:
		return nd(kind, "", yes, empty)
	case api.NdDo:
		return nd(kind, "", empty, yes)
	case api.NdFor:
		return nd(kind, "", empty, empty, empty, empty)
	case api.NdTry:
		return nd(kind, "", block, nd(api.NdFinal, "", block))
	case api.NdCatch:
		return nd(kind, "a", block)
	case api.NdFinal:
		return nd(kind, "", block)
	case api.NdNamed:
		return nd(kind, "a", body)
	case api.NdFunc:
		return nd(kind, "", body)
	case api.NdProp:
		return nd(kind, "", yes)
	case api.NdDot:
		return nd(kind, "a", yes)
	case api.NdCall, api.NdNew:
		return nd(kind, "", yes)
	case api.NdUnary:
		return nd(kind, "!", yes)
	case api.NdUpdate:
		return nd(kind, "++", id("a"))
	case api.NdBinary:
		return nd(kind, "+", yes, yes)
	case api.NdLogic:
		return nd(kind, "||", yes, yes)
	case api.NdIndex, api.NdComma:
		return nd(kind, "", yes, yes)
	case api.NdCond:
		return nd(kind, "", yes, yes, yes)
	case api.NdAssign:
		return nd(kind, "=", id("a"), yes)
	}
	return nd(kind, "")
}

// within puts a node where one of its kind may stand, and tells its place.
func within(m made) (whole made, at int) {
	block := nd(api.NdBlock, "")
	switch kind := m.kind; {
	case kind == api.NdProgram:
		return m, 0
	case kind == api.NdDecl:
		return nd(api.NdProgram, "", nd(api.NdVar, "", m)), 2
	case kind == api.NdCatch, kind == api.NdFinal:
		return nd(api.NdProgram, "", nd(api.NdTry, "", block, m)), 3
	case kind == api.NdParam:
		return nd(api.NdProgram, "", nd(api.NdNamed, "a", m, nd(api.NdBody, ""))), 2
	case kind == api.NdBody:
		return nd(api.NdProgram, "", nd(api.NdNamed, "a", m)), 2
	case kind == api.NdProp:
		return nd(api.NdProgram, "", nd(api.NdExpr, "", nd(api.NdObject, "", m))), 3
	case kind >= api.NdNum:
		return nd(api.NdProgram, "", nd(api.NdExpr, "", m)), 2
	}
	return nd(api.NdProgram, "", m), 1
}

// maker makes trees that may be, by its picks.
type maker struct{ pick func(n int) int }

func newMaker() maker { return maker{rand.New(rand.NewSource(5)).Intn} }

func (k maker) one(words string) string {
	l := strings.Fields(words)
	return l[k.pick(len(l))]
}

func (k maker) name() string { return k.one("a b c $ _d e0 get undefined eval arguments If") }

func (k maker) signs() string {
	return []string{"", "a", "if", "0", "~3fe0000000000000", "\x00\x1f\x7f", "'\"\\", "\n\r\t", "//", "/*", "\u00e9\u2028\U0010ffff", "a b"}[k.pick(12)]
}

func (k maker) several(least, most int, item func() made) []made {
	l := make([]made, least+k.pick(most-least+1))
	for i := range l {
		l[i] = item()
	}
	return l
}

func (k maker) program(deep int) made {
	return nd(api.NdProgram, "", k.several(0, 4, func() made { return k.element(deep) })...)
}

func (k maker) element(deep int) made {
	if deep > 0 && k.pick(6) == 0 {
		return k.function(api.NdNamed, k.name(), deep-1)
	}
	return k.statement(deep)
}

func (k maker) function(kind int, name string, deep int) made {
	kids := k.several(0, 3, func() made { return nd(api.NdParam, k.name()) })
	body := nd(api.NdBody, "", k.several(0, 3, func() made { return k.element(deep) })...)
	return nd(kind, name, append(kids, body)...)
}

func (k maker) block(deep int) made {
	return nd(api.NdBlock, "", k.several(0, 3, func() made { return k.statement(deep) })...)
}

func (k maker) vars(deep int) made {
	return nd(api.NdVar, "", k.several(1, 3, func() made {
		return nd(api.NdDecl, k.name(), k.several(0, 1, func() made { return k.expr(deep) })...)
	})...)
}

func (k maker) statement(deep int) made {
	if deep <= 0 {
		return nd([]int{api.NdEmpty, api.NdBreak, api.NdContinue, api.NdReturn, api.NdBlock}[k.pick(5)], "")
	}
	deep--
	statement, expr := func() made { return k.statement(deep) }, func() made { return k.expr(deep) }
	optional := func() made { return []made{nd(api.NdEmpty, ""), expr()}[k.pick(2)] }
	switch kind := []int{api.NdBlock, api.NdVar, api.NdExpr, api.NdIf, api.NdIf, api.NdIf, api.NdWhile, api.NdDo, api.NdFor, api.NdReturn, api.NdThrow, api.NdTry}[k.pick(12)]; kind {
	case api.NdBlock:
		return k.block(deep)
	case api.NdVar:
		return k.vars(deep)
	case api.NdIf:
		m := nd(kind, "", append([]made{expr(), statement()}, k.several(0, 1, statement)...)...)
		if len(m.kids) == 3 && m.kids[1].open() {
			m.kids[1] = nd(api.NdBlock, "", m.kids[1])
		}
		return m
	case api.NdWhile:
		return nd(kind, "", expr(), statement())
	case api.NdDo:
		return nd(kind, "", statement(), expr())
	case api.NdFor:
		first := []made{nd(api.NdEmpty, ""), k.vars(deep), nd(api.NdExpr, "", expr())}[k.pick(3)]
		return nd(kind, "", first, optional(), optional(), statement())
	case api.NdTry:
		m, which := nd(kind, "", k.block(deep)), k.pick(3)
		if which != 0 {
			m.kids = append(m.kids, nd(api.NdCatch, k.name(), k.block(deep)))
		}
		if which != 1 {
			m.kids = append(m.kids, nd(api.NdFinal, "", k.block(deep)))
		}
		return m
	case api.NdReturn:
		return nd(kind, "", k.several(0, 1, expr)...)
	default:
		return nd(kind, "", expr())
	}
}

func (k maker) expr(deep int) made {
	if deep <= 0 {
		return k.leaf()
	}
	deep--
	expr := func() made { return k.expr(deep) }
	switch kind := api.NdArray + k.pick(api.NdComma-api.NdArray+1); kind {
	case api.NdArray:
		return nd(kind, "", k.several(0, 3, expr)...)
	case api.NdObject:
		return nd(kind, "", k.several(0, 3, func() made { return nd(api.NdProp, k.signs(), expr()) })...)
	case api.NdFunc:
		return k.function(kind, []string{"", k.name()}[k.pick(2)], deep)
	case api.NdCall, api.NdNew:
		return nd(kind, "", k.several(1, 3, expr)...)
	case api.NdUnary:
		return nd(kind, k.one("delete void typeof + - ~ !"), expr())
	case api.NdUpdate:
		m := nd(kind, k.one("++ --"), k.target(deep))
		m.bits = uint64(k.pick(2))
		return m
	case api.NdBinary:
		return nd(kind, k.one("| ^ & === !== < > <= >= instanceof in << >> >>> + - * / %"), expr(), expr())
	case api.NdLogic:
		return nd(kind, k.one("|| &&"), expr(), expr())
	case api.NdCond:
		return nd(kind, "", expr(), expr(), expr())
	case api.NdAssign:
		return nd(kind, k.one("= += -= *= /= %= &= |= ^= <<= >>= >>>="), k.target(deep), expr())
	case api.NdComma:
		return nd(kind, "", expr(), expr())
	default:
		return k.target(deep)
	}
}

func (k maker) target(deep int) made {
	switch k.pick(3) {
	case 0:
		return nd(api.NdDot, k.one("a b if this new prototype"), k.expr(deep-1))
	case 1:
		return nd(api.NdIndex, "", k.expr(deep-1), k.expr(deep-1))
	}
	return id(k.name())
}

func (k maker) leaf() made {
	switch kind := api.NdNum + k.pick(api.NdObject-api.NdNum+1); kind {
	case api.NdNum:
		return num([]int{0, 1, 9, api.MaxWhole, k.pick(1 << k.pick(54))}[k.pick(5)])
	case api.NdText:
		return nd(kind, k.signs())
	case api.NdId:
		return id(k.name())
	default:
		return nd(kind, "")
	}
}
