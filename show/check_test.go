package show

import (
	"math"
	"slices"
	"strings"
	"testing"

	"septum/api"
	"septum/syn"
)

// checks holds what Check tells of a list.
func checks(t *testing.T, l []api.Node, wantAt int, want api.Errno) {
	t.Helper()
	before := slices.Clone(l)
	if at, e := Check(l); at != wantAt || e != want {
		t.Errorf("%v: %d, %d, not %d, %d", l, at, int(e), wantAt, int(want))
	}
	if !slices.Equal(l, before) {
		t.Errorf("%v: changed", before)
	}
}

// decides holds that a node may be, or may not, where one of its kind may stand.
func decides(t *testing.T, m made, may bool) {
	t.Helper()
	whole, at := within(m)
	if may {
		checks(t, whole.laid(), 0, api.OK)
		return
	}
	checks(t, whole.laid(), at, api.ErrForm)
}

func TestNothing(t *testing.T) {
	checks(t, nil, 0, api.ErrArg)
	checks(t, []api.Node{}, 0, api.ErrArg)
	checks(t, []api.Node{{}}, 0, api.ErrForm)
	checks(t, []api.Node{{Kind: api.NdProgram, Size: 1}}, 0, api.OK)
	checks(t, []api.Node{{Kind: api.NdProgram}}, 0, api.ErrForm)
}

func TestLeastOfEachKind(t *testing.T) {
	for kind := api.NdProgram; kind <= api.NdComma; kind++ {
		decides(t, least(kind), true)
	}
}

// Each kind with up to two kids of any kinds, and with more of kinds that stand for the others.
func TestKids(t *testing.T) {
	m := newModel()
	var every []int
	for kind := -1; kind <= api.NdComma+1; kind++ {
		every = append(every, kind)
	}
	some := []int{0, api.NdProgram, api.NdBlock, api.NdVar, api.NdDecl, api.NdEmpty, api.NdExpr, api.NdIf, api.NdCatch, api.NdFinal, api.NdNamed, api.NdParam, api.NdBody, api.NdNum, api.NdId, api.NdProp, api.NdDot, api.NdCall}
	for kind := api.NdProgram; kind <= api.NdComma; kind++ {
		holdsKids(t, m, kind, nil, every, 2)
		holdsKids(t, m, kind, nil, some, 3)
	}
	for _, kind := range []int{api.NdFor, api.NdTry, api.NdIf, api.NdCond, api.NdFunc} {
		holdsKids(t, m, kind, nil, some, 4)
	}
}

// holdsKids tries all kids of those kinds behind the given ones, up to so many more.
func holdsKids(t *testing.T, m model, kind int, kids []int, kinds []int, more int) {
	n := least(kind)
	n.kids = nil
	for _, k := range kids {
		n.kids = append(n.kids, least(k))
	}
	decides(t, n, m.mayHave(kind, kids))
	if more == 0 || t.Failed() {
		return
	}
	for _, k := range kinds {
		holdsKids(t, m, kind, append(slices.Clip(kids), k), kinds, more-1)
	}
}

func TestManyKids(t *testing.T) {
	for _, x := range []struct{ kind, kid int }{
		{api.NdProgram, api.NdNamed}, {api.NdBody, api.NdNamed}, {api.NdBlock, api.NdTry}, {api.NdVar, api.NdDecl},
		{api.NdArray, api.NdFunc}, {api.NdObject, api.NdProp}, {api.NdCall, api.NdComma}, {api.NdNew, api.NdText},
	} {
		n := least(x.kind)
		n.kids = slices.Repeat([]made{least(x.kid)}, 2000)
		decides(t, n, true)
		n.kids[1999] = least(api.NdCatch)
		decides(t, n, false)
	}
	n := least(api.NdFunc)
	n.kids = append(slices.Repeat([]made{least(api.NdParam)}, 2000), n.kids...)
	decides(t, n, true)
	n.kids = append(n.kids, least(api.NdParam))
	decides(t, n, false)
}

func TestKindsThatAreNone(t *testing.T) {
	for _, kind := range []int{0, -1, api.NdComma + 1, 1 << 20, math.MaxInt, math.MinInt} {
		checks(t, nd(kind, "").laid(), 0, api.ErrForm)
		checks(t, nd(api.NdProgram, "", nd(kind, "")).laid(), 0, api.ErrForm)
		checks(t, nd(api.NdProgram, "", nd(api.NdExpr, "", nd(kind, ""))).laid(), 1, api.ErrForm)
	}
}

// The first node is a program, and none but it.
func TestPrograms(t *testing.T) {
	for kind := api.NdBlock; kind <= api.NdComma; kind++ {
		checks(t, least(kind).laid(), 0, api.ErrForm)
	}
	program := least(api.NdProgram)
	checks(t, nd(api.NdProgram, "", program).laid(), 0, api.ErrForm)
	checks(t, nd(api.NdProgram, "", nd(api.NdBlock, "", program)).laid(), 1, api.ErrForm)
	checks(t, nd(api.NdProgram, "", nd(api.NdNamed, "a", program)).laid(), 1, api.ErrForm)
}

func TestTexts(t *testing.T) {
	m := newModel()
	for kind := api.NdProgram; kind <= api.NdComma; kind++ {
		for _, s := range someTexts {
			n := least(kind)
			n.text = s
			decides(t, n, m.mayText(kind, s))
		}
	}
	// Names that mean something elsewhere are names here; words are keys alone.
	for _, s := range []string{"eval", "arguments", "undefined", "get"} {
		for _, kind := range []int{api.NdDecl, api.NdCatch, api.NdNamed, api.NdFunc, api.NdParam, api.NdId, api.NdDot} {
			n := least(kind)
			n.text = s
			decides(t, n, true)
		}
	}
	for _, s := range strings.Fields(modelWords) {
		for _, kind := range []int{api.NdDecl, api.NdCatch, api.NdNamed, api.NdFunc, api.NdParam, api.NdId} {
			n := least(kind)
			n.text = s
			decides(t, n, false)
		}
		n := least(api.NdDot)
		n.text = s
		decides(t, n, true)
	}
}

func TestBits(t *testing.T) {
	m := newModel()
	for kind := api.NdProgram; kind <= api.NdComma; kind++ {
		for _, b := range someBits {
			n := least(kind)
			n.bits = b
			decides(t, n, m.mayBits(kind, b))
		}
	}
	n := least(api.NdUpdate)
	n.bits = 1
	decides(t, n, true)
	n.bits = 2
	decides(t, n, false)
	decides(t, num(0), true)
	decides(t, num(api.MaxWhole), true)
	decides(t, num(api.MaxWhole+2), false)
	decides(t, made{kind: api.NdNum, bits: 1 << 63}, false)
}

func TestSizes(t *testing.T) {
	// Program, Expr, Binary, Id, Id, Empty
	l := nd(api.NdProgram, "", nd(api.NdExpr, "", nd(api.NdBinary, "+", id("a"), id("b"))), least(api.NdEmpty)).laid()
	above := []int{0, 0, 1, 2, 2, 0}
	for i := range l {
		for _, size := range []int{math.MinInt, -1, 0, 1, 2, 3, 4, 5, 6, 7, 1 << 40, math.MaxInt - 1, math.MaxInt} {
			if size == l[i].Size {
				continue
			}
			// The one above does not come to what it should any more, and stands ahead.
			bad := slices.Clone(l)
			bad[i].Size = size
			checks(t, bad, above[i], api.ErrForm)
		}
		for _, n := range []int{math.MinInt, -1, 0, 1, 2, 3, 4, 1 << 40, math.MaxInt} {
			if n == l[i].N {
				continue
			}
			bad := slices.Clone(l)
			bad[i].N = n
			checks(t, bad, i, api.ErrForm)
		}
	}
	// What lies behind the list's end is not of it, and what stands behind the whole is of nothing.
	for n := 1; n < len(l); n++ {
		checks(t, l[:n], 0, api.ErrForm)
	}
	checks(t, append(slices.Clone(l), least(api.NdEmpty).laid()...), 0, api.ErrForm)
	checks(t, append(slices.Clone(l), l...), 0, api.ErrForm)
}

// Sizes that fall short of, or run over, what stands above, and together come to it.
func TestSizesThatMakeUpForOneAnother(t *testing.T) {
	l := nd(api.NdProgram, "", nd(api.NdBlock, "", least(api.NdEmpty)), nd(api.NdBlock, "", least(api.NdEmpty))).laid()
	l[1].Size, l[2].Size, l[3].Size = 1, 1, 3
	checks(t, l, 0, api.ErrForm)
	l = nd(api.NdProgram, "", least(api.NdEmpty), nd(api.NdBlock, "", least(api.NdEmpty))).laid()
	l[1].Size, l[3].Size = 2, 1
	// The program has an Empty of two nodes, and an Empty.
	checks(t, l, 1, api.ErrForm)
}

func TestFirstFault(t *testing.T) {
	l := nd(api.NdProgram, "", nd(api.NdExpr, "", nd(api.NdBinary, "+", id("a"), id("b"))), nd(api.NdWhile, "", id("c"), least(api.NdEmpty))).laid()
	checks(t, l, 0, api.OK)
	for i := len(l) - 1; i >= 0; i-- {
		l[i].Bits = 1
		checks(t, l, i, api.ErrForm)
	}
}

func TestDepth(t *testing.T) {
	for _, x := range []struct {
		levels, others int
		about          func(m made) made
		middle         made
		whole          func(m made) made
	}{
		{1, 2, func(m made) made { return nd(api.NdBlock, "", m) }, least(api.NdEmpty), func(m made) made { return m }},
		{1, 3, func(m made) made { return nd(api.NdWhile, "", least(api.NdTrue), m) }, least(api.NdThrow), func(m made) made { return m }},
		{1, 3, func(m made) made { return nd(api.NdUnary, "!", m) }, id("a"), func(m made) made { return nd(api.NdExpr, "", m) }},
		{1, 3, func(m made) made { return nd(api.NdComma, "", id("a"), m) }, id("a"), func(m made) made { return nd(api.NdExpr, "", m) }},
		{2, 2, func(m made) made { return nd(api.NdNamed, "a", nd(api.NdBody, "", m)) }, least(api.NdBreak), func(m made) made { return m }},
	} {
		m := x.middle
		for times := 1; times <= 2*api.MaxDepth; times++ {
			m = x.about(m)
			want := api.OK
			if times*x.levels+x.others > api.MaxDepth {
				want = api.ErrDeep
			}
			l := nd(api.NdProgram, "", x.whole(m)).laid()
			checks(t, l, 0, want)
			// What may not be is told ahead of how high all is.
			l[len(l)-1].Bits = math.MaxUint64
			checks(t, l, len(l)-1, api.ErrForm)
		}
	}
}

// A statement is open where an else behind it would be within it: where a source's else goes tells so.
func TestOpenStatements(t *testing.T) {
	k, met := newMaker(), [2]int{}
	for range 20000 {
		m := k.statement(1 + k.pick(5))
		inner, e := Print(nd(api.NdProgram, "", m).laid())
		if e != api.OK || len(inner) > api.MaxSource-20 {
			continue
		}
		l := nd(api.NdProgram, "", nd(api.NdIf, "", least(api.NdTrue), m, least(api.NdEmpty))).laid()
		back, _, _ := syn.Parse("if (true) " + inner + " else ;")
		if slices.Equal(back, l) {
			met[0]++
			checks(t, l, 0, api.OK)
		} else {
			met[1]++
			checks(t, l, 1, api.ErrForm)
		}
		// Without an else, or as what stands behind one, any statement will do.
		checks(t, nd(api.NdProgram, "", nd(api.NdIf, "", least(api.NdTrue), m)).laid(), 0, api.OK)
		checks(t, nd(api.NdProgram, "", nd(api.NdIf, "", least(api.NdTrue), least(api.NdEmpty), m)).laid(), 0, api.OK)
	}
	if met[0] < 1000 || met[1] < 1000 {
		t.Error("open and other statements that were met", met)
	}
}

func TestOpenStatementsOfEachKind(t *testing.T) {
	yes, empty := least(api.NdTrue), least(api.NdEmpty)
	open := nd(api.NdIf, "", yes, empty)
	for _, x := range []struct {
		m    made
		open bool
	}{
		{open, true},
		{nd(api.NdIf, "", yes, empty, open), true},
		{nd(api.NdIf, "", yes, empty, empty), false},
		{nd(api.NdWhile, "", yes, open), true},
		{nd(api.NdWhile, "", yes, empty), false},
		{nd(api.NdFor, "", empty, empty, empty, open), true},
		{nd(api.NdFor, "", empty, empty, empty, empty), false},
		{nd(api.NdWhile, "", yes, nd(api.NdFor, "", empty, empty, empty, nd(api.NdIf, "", yes, empty, nd(api.NdWhile, "", yes, open)))), true},
		{nd(api.NdDo, "", open, yes), false},
		{nd(api.NdBlock, "", open), false},
		{nd(api.NdWhile, "", yes, nd(api.NdBlock, "", open)), false},
		{nd(api.NdTry, "", nd(api.NdBlock, "", open), nd(api.NdFinal, "", nd(api.NdBlock, "", open))), false},
		{nd(api.NdExpr, "", nd(api.NdFunc, "", nd(api.NdBody, "", open))), false},
	} {
		want, at := api.OK, 0
		if x.open {
			want, at = api.ErrForm, 1
		}
		checks(t, nd(api.NdProgram, "", nd(api.NdIf, "", yes, x.m, empty)).laid(), at, want)
	}
	// Whatever is wrong within the open statement, it stands behind the one that may not have it.
	l := nd(api.NdProgram, "", nd(api.NdIf, "", yes, nd(api.NdIf, "if", empty, yes), empty)).laid()
	checks(t, l, 1, api.ErrForm)
}

// What the reader of sources tells may be.
func TestTreesOfSources(t *testing.T) {
	for _, s := range []string{
		"", ";", "function f(a, a) { return; function g() {} }", "var a, b = 1;", "for (var a;;) for (a in b; c; d) break;",
		"if (a) if (b) ; else ; else { if (c) ; }", "do if (a) ; while (b);", "try {} catch (e) {} finally { throw e; }",
		"x = {a: 1, 'b\\u0000': 2, 0x10: 3, if: 4};", "new new a.if[b](1)(2);", "(a.b)++, --c, delete d, - - 1;", "eval = arguments;",
		"a >>>= b <<= c ? d : e || f && g | h ^ i & j === k < l >> m + n * o;", "'\\\\\\'\\\"\\n\\r\\t\\0\\u00e9\u00e9\x7f';", "a = function () {}, b = function f() {};",
	} {
		l, at, e := syn.Parse(s)
		if e != api.OK {
			t.Fatal(s, at, int(e))
		}
		checks(t, l, 0, api.OK)
	}
}

// change makes something of a list another.
func (k maker) change(l []api.Node) []api.Node {
	i := k.pick(len(l))
	numbers := []int{-1, 0, 1, 2, 3, 4, l[i].Size - 1, l[i].Size + 1, l[i].N - 1, l[i].N + 1, len(l), len(l) - i, math.MaxInt, math.MinInt}
	switch k.pick(9) {
	case 0:
		l[i].Kind = k.pick(api.NdComma+3) - 1
	case 1:
		l[i].N = numbers[k.pick(len(numbers))]
	case 2:
		l[i].Size = numbers[k.pick(len(numbers))]
	case 3:
		l[i].Text = someTexts[k.pick(len(someTexts))]
	case 4:
		l[i].Bits = someBits[k.pick(len(someBits))]
	case 5:
		l[i] = l[k.pick(len(l))]
	case 6:
		l = slices.Insert(l, i, l[k.pick(len(l))])
	case 7:
		l = slices.Delete(l, i, i+1)
	default:
		// The sizes go with what is changed, so that it is not they that are told.
		if l[i].Kind == api.NdIf && l[i].N == 3 {
			l[i].Kind = []int{api.NdWhile, api.NdDo, api.NdCond}[k.pick(3)]
		} else {
			l[i].Kind = api.NdIf
		}
	}
	return l
}

func TestChangedTrees(t *testing.T) {
	k, m, met := newMaker(), newModel(), map[api.Errno]int{}
	for range 50000 {
		l := k.program(1 + k.pick(5)).laid()
		for range k.pick(4) {
			if len(l) > 0 {
				l = k.change(l)
			}
		}
		at, e := m.check(l)
		checks(t, l, at, e)
		met[e]++
		if t.Failed() {
			return
		}
	}
	if met[api.OK] < 1000 || met[api.ErrForm] < 1000 {
		t.Error("answers that were met", met)
	}
}

// All lists of few nodes whose numbers are small.
func TestSmallLists(t *testing.T) {
	m := newModel()
	var all func(l []api.Node, more int)
	all = func(l []api.Node, more int) {
		at, e := m.check(l)
		checks(t, l, at, e)
		if more == 0 || t.Failed() {
			return
		}
		for _, kind := range []int{api.NdProgram, api.NdBlock, api.NdEmpty} {
			for n := -1; n <= 3; n++ {
				for size := -1; size <= 4; size++ {
					all(append(slices.Clip(l), api.Node{Kind: kind, N: n, Size: size}), more-1)
				}
			}
		}
	}
	all(nil, 2)
	for n := range 4 {
		all([]api.Node{{Kind: api.NdProgram, N: n, Size: n + 1}}, 2)
		all([]api.Node{{Kind: api.NdProgram, N: n, Size: 4}, {Kind: api.NdBlock, N: 1, Size: 2}}, 2)
	}
}

// Lists whose numbers say much are told of as soon as others.
func TestGreatLists(t *testing.T) {
	const many = 1 << 18
	l := slices.Repeat([]api.Node{{Kind: api.NdBlock, N: math.MaxInt, Size: 1}}, many)
	l[0] = api.Node{Kind: api.NdProgram, N: many - 1, Size: many}
	checks(t, l, 1, api.ErrForm)
	l[0].N = math.MaxInt
	checks(t, l, 0, api.ErrForm)
	l = slices.Repeat([]api.Node{{Kind: api.NdEmpty, Size: 1}}, many)
	l[0] = api.Node{Kind: api.NdProgram, N: many - 1, Size: many}
	checks(t, l, 0, api.OK)
	// Each else's if is within the one ahead of it.
	l = slices.Repeat([]api.Node{{Kind: api.NdIf, N: 3}, {Kind: api.NdTrue, Size: 1}, {Kind: api.NdEmpty, Size: 1}}, 1<<16)
	l = append([]api.Node{{Kind: api.NdProgram, N: 1}}, append(l, api.Node{Kind: api.NdEmpty})...)
	for i := range l {
		if l[i].Size == 0 {
			l[i].Size = len(l) - i
		}
	}
	checks(t, l, 0, api.ErrDeep)
	l[len(l)-1].Text = "a"
	checks(t, l, len(l)-1, api.ErrForm)
}
