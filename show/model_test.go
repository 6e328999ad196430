package show

import (
	"math"
	"regexp"
	"strings"

	"septum/api"
	"septum/bits"
)

// A second Check, made from the chapter's table, against which the first is held.

var kindNames = strings.Fields("- Program Block Var Decl Empty Expr If While Do For Break Continue Return Throw Try Catch Final Named Param Body Num Text True False Null This Id Array Object Prop Func Dot Index Call New Unary Update Binary Logic Cond Assign Comma")

func nameOf(kind int) string {
	if kind < 1 || kind >= len(kindNames) {
		return "-"
	}
	return kindNames[kind]
}

const modelName = `[a-zA-Z_$][a-zA-Z0-9_$]*`

// modelRow is a row of the chapter's table: what is asked of a node's Text, and of its kids, of which each
// one's kind stands there with a blank behind; S, L, E and T stand for a statement, an element, an expression
// and what may be assigned to. Of NAME, KEY and SIGNS more is asked than a pattern tells.
type modelRow struct{ kinds, text, kids string }

var modelRows = []modelRow{
	{"Program Body", ``, `(L )*`},
	{"Block", ``, `(S )*`},
	{"Var", ``, `(Decl )+`},
	{"Decl", `NAME`, `(E )?`},
	{"Empty Break Continue", ``, ``},
	{"Expr Throw", ``, `E `},
	{"Return", ``, `(E )?`},
	{"If", ``, `E S (S )?`},
	{"While", ``, `E S `},
	{"Do", ``, `S E `},
	{"For", ``, `(Var|Expr|Empty) (E|Empty) (E|Empty) S `},
	{"Try", ``, `Block (Catch |Final |Catch Final )`},
	{"Catch", `NAME`, `Block `},
	{"Final", ``, `Block `},
	{"Named", `NAME`, `(Param )*Body `},
	{"Func", `(NAME)?`, `(Param )*Body `},
	{"Param", `NAME`, ``},
	{"Num", ``, ``},
	{"Text", `SIGNS`, ``},
	{"True False Null This", ``, ``},
	{"Id", `NAME`, ``},
	{"Array", ``, `(E )*`},
	{"Object", ``, `(Prop )*`},
	{"Prop", `SIGNS`, `E `},
	{"Dot", `KEY`, `E `},
	{"Index Comma", ``, `E E `},
	{"Call New", ``, `(E )+`},
	{"Unary", `delete|void|typeof|\+|-|~|!`, `E `},
	{"Update", `\+\+|--`, `T `},
	{"Binary", `\||\^|&|===|!==|<|>|<=|>=|instanceof|in|<<|>>|>>>|\+|-|\*|/|%`, `E E `},
	{"Logic", `\|\||&&`, `E E `},
	{"Cond", ``, `E E E `},
	{"Assign", `=|\+=|-=|\*=|/=|%=|&=|\|=|\^=|<<=|>>=|>>>=`, `T E `},
}

const (
	modelStatements  = "Block|Var|Empty|Expr|If|While|Do|For|Break|Continue|Return|Throw|Try"
	modelExpressions = "Num|Text|True|False|Null|This|Id|Array|Object|Func|Dot|Index|Call|New|Unary|Update|Binary|Logic|Cond|Assign|Comma"
	modelWords       = "break case catch class const continue debugger default delete do else enum export extends false finally for function if implements import in instanceof interface let new null package private protected public return static super switch this throw true try typeof var void while with yield"
)

// model has the rows as patterns, by kind.
type model struct{ text, kids map[int]*regexp.Regexp }

func newModel() model {
	m := model{map[int]*regexp.Regexp{}, map[int]*regexp.Regexp{}}
	sorts := strings.NewReplacer("L ", "(?:"+modelStatements+"|Named) ", "S ", "(?:"+modelStatements+") ", "E ", "(?:"+modelExpressions+") ", "E|", modelExpressions+"|", "T ", "(?:Id|Dot|Index) ")
	texts := strings.NewReplacer("NAME", modelName, "KEY", modelName, "SIGNS", `[\x{0}-\x{10ffff}]*`)
	for _, row := range modelRows {
		for kind, name := range kindNames {
			for _, k := range strings.Fields(row.kinds) {
				if k == name {
					m.text[kind] = regexp.MustCompile("(?s)^(?:" + texts.Replace(row.text) + ")$")
					m.kids[kind] = regexp.MustCompile("^(?:" + sorts.Replace(row.kids) + ")$")
				}
			}
		}
	}
	return m
}

func (m model) mayText(kind int, s string) bool {
	word := strings.Contains(" "+modelWords+" ", " "+s+" ") && s != "" && !strings.Contains(s, " ")
	switch nameOf(kind) {
	case "Decl", "Catch", "Named", "Func", "Param", "Id":
		if word {
			return false
		}
	}
	// A pattern takes a byte that is of no sign for the sign that stands for such.
	return m.text[kind].MatchString(s) && strings.ToValidUTF8(s, "") == s
}

func (m model) mayBits(kind int, b uint64) bool {
	switch nameOf(kind) {
	case "Num":
		x := math.Float64frombits(b)
		return x >= 0 && x <= 1<<53 && x == math.Floor(x) && !math.Signbit(x)
	case "Update":
		return b == 0 || b == 1
	}
	return b == 0
}

func (m model) mayHave(kind int, kids []int) bool {
	var l strings.Builder
	for _, k := range kids {
		l.WriteString(nameOf(k) + " ")
	}
	return m.kids[kind].MatchString(l.String())
}

// below tells where the kids of i stand, and where what is behind them does; -1, if that is not within the list.
func (m model) below(l []api.Node, i int) (kids []int, end int) {
	end = i + 1
	for k := 0; k < l[i].N; k++ {
		if end >= len(l) || l[end].Size <= 0 {
			return nil, -1
		}
		kids = append(kids, end)
		if end = end + min(l[end].Size, len(l)); end > len(l) {
			return nil, -1
		}
	}
	if l[i].N < 0 {
		return nil, -1
	}
	return kids, end
}

func (m model) open(l []api.Node, i int) bool {
	kids, _ := m.below(l, i)
	switch name := nameOf(l[i].Kind); {
	case name == "If" && l[i].N == 2:
		return true
	case name == "If", name == "While", name == "For":
		return len(kids) > 0 && m.open(l, kids[len(kids)-1])
	}
	return false
}

func (m model) mayBe(l []api.Node, i int) bool {
	n := l[i]
	if (nameOf(n.Kind) == "Program") != (i == 0) || m.text[n.Kind] == nil {
		return false
	}
	kids, end := m.below(l, i)
	if end < 0 || n.Size != end-i || i == 0 && end != len(l) {
		return false
	}
	var kinds []int
	for _, k := range kids {
		kinds = append(kinds, l[k].Kind)
	}
	if !m.mayHave(n.Kind, kinds) || !m.mayText(n.Kind, n.Text) || !m.mayBits(n.Kind, n.Bits) {
		return false
	}
	return nameOf(n.Kind) != "If" || len(kids) == 2 || !m.open(l, kids[1])
}

func (m model) height(l []api.Node, i int) int {
	height := 0
	kids, _ := m.below(l, i)
	for _, k := range kids {
		height = max(height, m.height(l, k))
	}
	return height + 1
}

func (m model) check(l []api.Node) (at int, e api.Errno) {
	if len(l) == 0 {
		return 0, api.ErrArg
	}
	for i := range l {
		if !m.mayBe(l, i) {
			return i, api.ErrForm
		}
	}
	if m.height(l, 0) > api.MaxDepth {
		return 0, api.ErrDeep
	}
	return 0, api.OK
}

// Texts, and bits, that some nodes may have, and others not.
var (
	someTexts = append(strings.Fields("a b9 $ _ A9$_ 9a 0 a-b a.b \u00e9 if var in instanceof delete void typeof this null true false yield let undefined eval arguments If + - ~ ! ++ -- +++ | ^ & == === != !== < > <= >= => << >> >>> <<< * ** / % || && ?? = += -= *= /= %= &= |= ^= <<= >>= >>>= **= &&= ||= := . , ? :"),
		"", " ", "a ", " a", "a b", "a\n", "if ", "+ ", " =", "++ ", "|| ", "\x00", "a\x00", "\n", "\"", "'", "\\", "\u2028", "\U0010ffff", "\ufffd",
		"\xff", "a\xff", "\xc3", "\xed\xa0\x80", "\xc0\x80", "\xf4\x90\x80\x80", "if\xff", "+\xff")
	someBits = []uint64{0, 1, 2, 3, 1 << 63, 1<<63 | 1, bits.Of(1), bits.Of(2), bits.Of(7), bits.Of(-1), bits.Of(1<<53 - 1), bits.Of(1 << 53), bits.Of(1<<53) + 1, bits.Of(1 << 54), bits.Of(-1 << 53),
		math.Float64bits(0.5), math.Float64bits(1.5), math.Float64bits(1<<52 - 0.5), math.Float64bits(math.Inf(1)), math.Float64bits(math.Inf(-1)), api.NaN, api.NaN | 1<<63, math.MaxUint64, math.MaxInt64}
)
