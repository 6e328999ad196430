package syn

import (
	"slices"
	"strconv"
	"strings"
	"testing"

	"septum/api"
	"septum/bits"
)

var kindNames = strings.Fields("? Program Block Var Decl Empty Expr If While Do For Break Continue Return Throw Try Catch Final Named Param Body Num Text True False Null This Id Array Object Prop Func Dot Index Call New Unary Update Binary Logic Cond Assign Comma")

// shape writes the tree at the beginning of l: its kind, :Text, #Bits, and its kids in brackets. It
// goes by N alone, and says so where a Size is another.
func shape(l []api.Node) (s string, size int) {
	n := l[0]
	s, size = kindNames[n.Kind], 1
	if n.Text != "" {
		s += ":" + n.Text
	}
	if n.Bits != 0 && n.Kind == api.NdNum {
		s += "#" + bits.Text(n.Bits)
	} else if n.Bits != 0 {
		s += "#" + strconv.FormatUint(n.Bits, 10)
	}
	var kids []string
	for range n.N {
		if size >= len(l) {
			return s + "(KID MISSING)", size
		}
		k, kidSize := shape(l[size:])
		kids = append(kids, k)
		size += kidSize
	}
	if len(kids) > 0 {
		s += "(" + strings.Join(kids, " ") + ")"
	}
	if n.Size != size {
		s += "[SIZE " + strconv.Itoa(n.Size) + "]"
	}
	return s, size
}

// parses holds that a source is a program of that shape.
func parses(t *testing.T, s, want string) {
	t.Helper()
	l, at, e := Parse(s)
	if at != 0 || e != api.OK || len(l) == 0 {
		t.Errorf("Parse(%q) = %v, %d, %d, not %s", s, l, at, int(e), want)
		return
	}
	got, size := shape(l)
	if got != want || size != len(l) {
		t.Errorf("Parse(%q) = %s (%d of %d nodes), not %s", s, got, size, len(l), want)
	}
}

// element holds that a source is a program of one element of that shape.
func element(t *testing.T, s, want string) {
	t.Helper()
	parses(t, s, "Program("+want+")")
}

// expression holds that s is an expression of that shape, wherever one may stand alone.
func expression(t *testing.T, s, want string) {
	t.Helper()
	element(t, "("+s+");", "Expr("+want+")")
	element(t, "return "+s+";", "Return("+want+")")
	element(t, "while ("+s+") ;", "While("+want+" Empty)")
	element(t, "for (; "+s+";) ;", "For(Empty "+want+" Empty Empty)")
	element(t, "return a["+s+"];", "Return(Index(Id:a "+want+"))")
}

// refuses holds that a source is refused at that place, by that error.
func refuses(t *testing.T, s string, wantAt int, want api.Errno) {
	t.Helper()
	if l, at, e := Parse(s); l != nil || at != wantAt || e != want {
		t.Errorf("Parse(%q) = %v, %d, %d, not %d, %d", s, l, at, int(e), wantAt, int(want))
	}
}

// stops holds that no program goes on with what stands behind the mark @ in s.
func stops(t *testing.T, s string) {
	t.Helper()
	ahead, behind, marked := strings.Cut(s, "@")
	if !marked {
		t.Fatal(s)
	}
	refuses(t, ahead+behind, len(ahead), api.ErrSyntax)
}

func TestExample(t *testing.T) {
	l, at, e := Parse("a.b = 1 + 2;")
	want := []api.Node{
		{Kind: api.NdProgram, N: 1, Size: 8},
		{Kind: api.NdExpr, N: 1, Size: 7},
		{Kind: api.NdAssign, N: 2, Size: 6, Text: "="},
		{Kind: api.NdDot, N: 1, Size: 2, Text: "b"},
		{Kind: api.NdId, Size: 1, Text: "a"},
		{Kind: api.NdBinary, N: 2, Size: 3, Text: "+"},
		{Kind: api.NdNum, Size: 1, Bits: bits.Of(1)},
		{Kind: api.NdNum, Size: 1, Bits: bits.Of(2)},
	}
	if !slices.Equal(l, want) || at != 0 || e != api.OK {
		t.Error(l, at, int(e))
	}
	stops(t, "1 @= 2;")
	stops(t, "a @b")
	stops(t, "a@")
}

func TestProgramsAndFunctions(t *testing.T) {
	parses(t, "", "Program")
	parses(t, " /* a */ // b", "Program")
	parses(t, ";;", "Program(Empty Empty)")
	parses(t, "function f() {} ; function g() {}", "Program(Named:f(Body) Empty Named:g(Body))")
	element(t, "function f(a) { ; }", "Named:f(Param:a Body(Empty))")
	element(t, "function f(a, $b, a) { function g() { } return; }", "Named:f(Param:a Param:$b Param:a Body(Named:g(Body) Return))")
	expression(t, "function () {}", "Func(Body)")
	expression(t, "function f() {}", "Func:f(Body)")
	expression(t, "function f(a, b) { function g() {} ; }", "Func:f(Param:a Param:b Body(Named:g(Body) Empty))")
	expression(t, "function (a) { return a; }(1)", "Call(Func(Param:a Body(Return(Id:a))) Num#1)")
	element(t, "x = function () {};", "Expr(Assign:=(Id:x Func(Body)))")
}

func TestPlainStatements(t *testing.T) {
	element(t, "{}", "Block")
	element(t, "{ ; { a; } }", "Block(Empty Block(Expr(Id:a)))")
	element(t, "var a;", "Var(Decl:a)")
	element(t, "var a, b = 1, c = d = e ? f : g, h;", "Var(Decl:a Decl:b(Num#1) Decl:c(Assign:=(Id:d Cond(Id:e Id:f Id:g))) Decl:h)")
	element(t, "var a = (b, c), d = e in f;", "Var(Decl:a(Comma(Id:b Id:c)) Decl:d(Binary:in(Id:e Id:f)))")
	element(t, ";", "Empty")
	element(t, "a;", "Expr(Id:a)")
	element(t, "a, b;", "Expr(Comma(Id:a Id:b))")
	element(t, "break;", "Break")
	element(t, "continue;", "Continue")
	element(t, "return;", "Return")
	element(t, "return a, {};", "Return(Comma(Id:a Object))")
	element(t, "throw a, function () {};", "Throw(Comma(Id:a Func(Body)))")
	element(t, "throw\na;", "Throw(Id:a)")
	element(t, "return\na;", "Return(Id:a)")
}

func TestStatementsAboutOthers(t *testing.T) {
	element(t, "if (a) ;", "If(Id:a Empty)")
	element(t, "if (a, b) c; else { }", "If(Comma(Id:a Id:b) Expr(Id:c) Block)")
	element(t, "if (a) if (b) c; else d;", "If(Id:a If(Id:b Expr(Id:c) Expr(Id:d)))")
	element(t, "if (a) if (b) c; else d; else e;", "If(Id:a If(Id:b Expr(Id:c) Expr(Id:d)) Expr(Id:e))")
	element(t, "if (a) { if (b) c; } else d;", "If(Id:a Block(If(Id:b Expr(Id:c))) Expr(Id:d))")
	element(t, "if (a) while (b) if (c) ; else d;", "If(Id:a While(Id:b If(Id:c Empty Expr(Id:d))))")
	element(t, "if (a) do if (b) ; while (c); else d;", "If(Id:a Do(If(Id:b Empty) Id:c) Expr(Id:d))")
	element(t, "if (a) b; else if (c) d; else e;", "If(Id:a Expr(Id:b) If(Id:c Expr(Id:d) Expr(Id:e)))")
	element(t, "while (a, b) c;", "While(Comma(Id:a Id:b) Expr(Id:c))")
	element(t, "while ({}) var a;", "While(Object Var(Decl:a))")
	element(t, "do a; while (b, c);", "Do(Expr(Id:a) Comma(Id:b Id:c))")
	element(t, "do ; while (a);", "Do(Empty Id:a)")
	element(t, "do do ; while (a); while (b);", "Do(Do(Empty Id:a) Id:b)")
	parses(t, "do while (a) ; while (b); while (c) ;", "Program(Do(While(Id:a Empty) Id:b) While(Id:c Empty))")
	element(t, "try {} catch (e) {}", "Try(Block Catch:e(Block))")
	element(t, "try {} finally {}", "Try(Block Final(Block))")
	element(t, "try { a; } catch ($e) { b; } finally { c; }", "Try(Block(Expr(Id:a)) Catch:$e(Block(Expr(Id:b))) Final(Block(Expr(Id:c))))")
	element(t, "try { try {} finally {} } catch (e) {}", "Try(Block(Try(Block Final(Block))) Catch:e(Block))")
}

func TestFor(t *testing.T) {
	element(t, "for (;;) ;", "For(Empty Empty Empty Empty)")
	element(t, "for (a;;) ;", "For(Expr(Id:a) Empty Empty Empty)")
	element(t, "for (;a;) ;", "For(Empty Id:a Empty Empty)")
	element(t, "for (;;a) ;", "For(Empty Empty Id:a Empty)")
	element(t, "for (;;) a;", "For(Empty Empty Empty Expr(Id:a))")
	element(t, "for (var a;;) {}", "For(Var(Decl:a) Empty Empty Block)")
	element(t, "for (var i = 0, n = a.length; i < n; i++) { continue; }", "For(Var(Decl:i(Num) Decl:n(Dot:length(Id:a))) Binary:<(Id:i Id:n) Update:++#1(Id:i) Block(Continue))")
	element(t, "for (a, b; c, d; e, f) break;", "For(Expr(Comma(Id:a Id:b)) Comma(Id:c Id:d) Comma(Id:e Id:f) Break)")
	element(t, "for (a in b;;) ;", "For(Expr(Binary:in(Id:a Id:b)) Empty Empty Empty)")
	element(t, "for (var a = b in c;;) ;", "For(Var(Decl:a(Binary:in(Id:b Id:c))) Empty Empty Empty)")
	// What stands there is no statement.
	element(t, "for ({};{};{}) {}", "For(Expr(Object) Object Object Block)")
	element(t, "for (function () {};;) ;", "For(Expr(Func(Body)) Empty Empty Empty)")
}

func TestPrimaries(t *testing.T) {
	expression(t, "a", "Id:a")
	expression(t, "undefined", "Id:undefined")
	expression(t, "0", "Num")
	expression(t, "0x1F", "Num#31")
	expression(t, "9007199254740992", "Num#9007199254740992")
	expression(t, "''", "Text")
	expression(t, "'a\\n'", "Text:a\n")
	expression(t, "this", "This")
	expression(t, "null", "Null")
	expression(t, "true", "True")
	expression(t, "false", "False")
	expression(t, "[]", "Array")
	expression(t, "[a]", "Array(Id:a)")
	expression(t, "[a, b = c, [1]]", "Array(Id:a Assign:=(Id:b Id:c) Array(Num#1))")
	expression(t, "[(a, b)]", "Array(Comma(Id:a Id:b))")
	expression(t, "{}", "Object")
	expression(t, "{a: 1}", "Object(Prop:a(Num#1))")
	expression(t, "{a: b = c, 'd e': {}, '': 2, a: 3}", "Object(Prop:a(Assign:=(Id:b Id:c)) Prop:d e(Object) Prop(Num#2) Prop:a(Num#3))")
	expression(t, "{get: 1, set: 2}", "Object(Prop:get(Num#1) Prop:set(Num#2))")
	expression(t, "{a: function () {}}.a()", "Call(Dot:a(Object(Prop:a(Func(Body)))))")
	for number, key := range map[string]string{"0": "0", "7": "7", "0x1F": "31", "0X0": "0", "9007199254740992": "9007199254740992", "0x20000000000000": "9007199254740992"} {
		expression(t, "{"+number+": a}", "Object(Prop:"+key+"(Id:a))")
	}
}

func TestMembers(t *testing.T) {
	expression(t, "a.b", "Dot:b(Id:a)")
	expression(t, "a.b.c", "Dot:c(Dot:b(Id:a))")
	expression(t, "a[b]", "Index(Id:a Id:b)")
	expression(t, "a[b, c][d]", "Index(Index(Id:a Comma(Id:b Id:c)) Id:d)")
	expression(t, "a()", "Call(Id:a)")
	expression(t, "a(b)", "Call(Id:a Id:b)")
	expression(t, "a(b, c = d, (e, f))", "Call(Id:a Id:b Assign:=(Id:c Id:d) Comma(Id:e Id:f))")
	expression(t, "a()()", "Call(Call(Id:a))")
	expression(t, "a.b(1)[2].c(3)", "Call(Dot:c(Index(Call(Dot:b(Id:a) Num#1) Num#2)) Num#3)")
	expression(t, "1 .a", "Dot:a(Num#1)")
	expression(t, "'a'.b[0]()", "Call(Index(Dot:b(Text:a) Num))")
	expression(t, "this.a", "Dot:a(This)")
	expression(t, "[].a", "Dot:a(Array)")
	element(t, "a\n(b);", "Expr(Call(Id:a Id:b))")
}

func TestNew(t *testing.T) {
	expression(t, "new a", "New(Id:a)")
	expression(t, "new a()", "New(Id:a)")
	expression(t, "new a(b, c)", "New(Id:a Id:b Id:c)")
	expression(t, "new a()()", "Call(New(Id:a))")
	expression(t, "new a(1)(2)", "Call(New(Id:a Num#1) Num#2)")
	expression(t, "new a.b", "New(Dot:b(Id:a))")
	expression(t, "new a.b[c].d(e)", "New(Dot:d(Index(Dot:b(Id:a) Id:c)) Id:e)")
	expression(t, "new a().b", "Dot:b(New(Id:a))")
	expression(t, "new a(1).b(2)", "Call(Dot:b(New(Id:a Num#1)) Num#2)")
	expression(t, "new a()[b]", "Index(New(Id:a) Id:b)")
	expression(t, "new a.b(1)(2).c[3]++", "Update:++#1(Index(Dot:c(Call(New(Dot:b(Id:a) Num#1) Num#2)) Num#3))")
	expression(t, "new new a", "New(New(Id:a))")
	expression(t, "new new a()", "New(New(Id:a))")
	expression(t, "new new a(1)(2)", "New(New(Id:a Num#1) Num#2)")
	expression(t, "new new a(1)(2)(3)", "Call(New(New(Id:a Num#1) Num#2) Num#3)")
	expression(t, "new new new a(1)(2)(3)(4)", "Call(New(New(New(Id:a Num#1) Num#2) Num#3) Num#4)")
	expression(t, "new new a.b(1)", "New(New(Dot:b(Id:a) Num#1))")
	// Of a new that stands behind new no part is taken: parts are of the whole.
	expression(t, "new new a(1).b(2)", "Call(Dot:b(New(New(Id:a Num#1))) Num#2)")
	expression(t, "new new a()[b]", "Index(New(New(Id:a)) Id:b)")
	expression(t, "new (a())()", "New(Call(Id:a))")
	expression(t, "new (a().b)(c)", "New(Dot:b(Call(Id:a)) Id:c)")
	expression(t, "new (new a)(1)", "New(New(Id:a) Num#1)")
	expression(t, "new (new a).b(1)", "New(Dot:b(New(Id:a)) Num#1)")
	expression(t, "new 1", "New(Num#1)")
	expression(t, "new this(1)", "New(This Num#1)")
	expression(t, "new function (a) {}(1)", "New(Func(Param:a Body) Num#1)")
	expression(t, "new {}.a([])", "New(Dot:a(Object) Array)")
	expression(t, "-new a.b + 1", "Binary:+(Unary:-(New(Dot:b(Id:a))) Num#1)")
}

func TestUnaries(t *testing.T) {
	for _, op := range strings.Fields("delete void typeof + - ~ !") {
		expression(t, op+" a", "Unary:"+op+"(Id:a)")
		expression(t, op+" a.b()", "Unary:"+op+"(Call(Dot:b(Id:a)))")
		expression(t, op+" a++", "Unary:"+op+"(Update:++#1(Id:a))")
		expression(t, op+" ++ a", "Unary:"+op+"(Update:++(Id:a))")
		expression(t, op+" a * b", "Binary:*(Unary:"+op+"(Id:a) Id:b)")
		expression(t, "a * "+op+" b", "Binary:*(Id:a Unary:"+op+"(Id:b))")
		expression(t, op+" a ? b : c", "Cond(Unary:"+op+"(Id:a) Id:b Id:c)")
		for _, other := range strings.Fields("delete void typeof + - ~ !") {
			expression(t, op+" "+other+" a", "Unary:"+op+"(Unary:"+other+"(Id:a))")
		}
	}
	for _, op := range []string{"++", "--"} {
		for target, want := range map[string]string{"a": "Id:a", "a.b": "Dot:b(Id:a)", "a[b]": "Index(Id:a Id:b)", "a().b": "Dot:b(Call(Id:a))", "new a().b": "Dot:b(New(Id:a))", "1 .a": "Dot:a(Num#1)", "(a)": "Id:a", "((a.b))": "Dot:b(Id:a)", "(1 + 2)[3]": "Index(Binary:+(Num#1 Num#2) Num#3)", "this.a": "Dot:a(This)"} {
			expression(t, op+target, "Update:"+op+"("+want+")")
			expression(t, target+op, "Update:"+op+"#1("+want+")")
			expression(t, "- "+op+target, "Unary:-(Update:"+op+"("+want+"))")
			expression(t, "-"+target+op+" "+op[:1]+" b", "Binary:"+op[:1]+"(Unary:-(Update:"+op+"#1("+want+")) Id:b)")
		}
	}
	// No line's end parts them.
	element(t, "a\n++;", "Expr(Update:++#1(Id:a))")
	element(t, "a+++b;", "Expr(Binary:+(Update:++#1(Id:a) Id:b))")
}

// The signs between operands, the loosest first.
var theLevels = []string{"||", "&&", "|", "^", "&", "=== !==", "< > <= >= instanceof in", "<< >> >>>", "+ -", "* / %"}

func TestSignsBetween(t *testing.T) {
	kind := func(sign string) string {
		if sign == "||" || sign == "&&" {
			return "Logic:" + sign
		}
		return "Binary:" + sign
	}
	for i, some := range theLevels {
		for _, a := range strings.Fields(some) {
			expression(t, "a "+a+" b", kind(a)+"(Id:a Id:b)")
			expression(t, "a "+a+" (b "+a+" c)", kind(a)+"(Id:a "+kind(a)+"(Id:b Id:c))")
			for j, others := range theLevels {
				for _, b := range strings.Fields(others) {
					want := kind(b) + "(" + kind(a) + "(Id:a Id:b) Id:c)"
					if i < j {
						want = kind(a) + "(Id:a " + kind(b) + "(Id:b Id:c))"
					}
					expression(t, "a "+a+" b "+b+" c", want)
				}
			}
		}
	}
	expression(t, "a * b + c << d < e === f & g ^ h | i && j || k",
		"Logic:||(Logic:&&(Binary:|(Binary:^(Binary:&(Binary:===(Binary:<(Binary:<<(Binary:+(Binary:*(Id:a Id:b) Id:c) Id:d) Id:e) Id:f) Id:g) Id:h) Id:i) Id:j) Id:k)")
	expression(t, "a || b && c | d ^ e & f === g < h << i + j * k",
		"Logic:||(Id:a Logic:&&(Id:b Binary:|(Id:c Binary:^(Id:d Binary:&(Id:e Binary:===(Id:f Binary:<(Id:g Binary:<<(Id:h Binary:+(Id:i Binary:*(Id:j Id:k))))))))))")
	expression(t, "a - b - c * d * e - f", "Binary:-(Binary:-(Binary:-(Id:a Id:b) Binary:*(Binary:*(Id:c Id:d) Id:e)) Id:f)")
}

func TestConditions(t *testing.T) {
	expression(t, "a ? b : c", "Cond(Id:a Id:b Id:c)")
	expression(t, "a ? b : c ? d : e", "Cond(Id:a Id:b Cond(Id:c Id:d Id:e))")
	expression(t, "a ? b ? c : d : e", "Cond(Id:a Cond(Id:b Id:c Id:d) Id:e)")
	expression(t, "a || b ? c = d : e = f", "Cond(Logic:||(Id:a Id:b) Assign:=(Id:c Id:d) Assign:=(Id:e Id:f))")
	expression(t, "a ? b : c, d", "Comma(Cond(Id:a Id:b Id:c) Id:d)")
	expression(t, "(a ? b : c) ? d : e", "Cond(Cond(Id:a Id:b Id:c) Id:d Id:e)")
	expression(t, "a = b ? c : d", "Assign:=(Id:a Cond(Id:b Id:c Id:d))")
}

func TestAssignsAndCommas(t *testing.T) {
	for _, op := range strings.Fields("= += -= *= /= %= &= |= ^= <<= >>= >>>=") {
		expression(t, "a "+op+" b", "Assign:"+op+"(Id:a Id:b)")
		expression(t, "a.b "+op+" c", "Assign:"+op+"(Dot:b(Id:a) Id:c)")
		expression(t, "a[b] "+op+" c || d", "Assign:"+op+"(Index(Id:a Id:b) Logic:||(Id:c Id:d))")
		expression(t, "((a)) "+op+" b "+op+" c", "Assign:"+op+"(Id:a Assign:"+op+"(Id:b Id:c))")
		expression(t, "a().b "+op+" c, d", "Comma(Assign:"+op+"(Dot:b(Call(Id:a)) Id:c) Id:d)")
		stops(t, "1 @"+op+" 2;")
		stops(t, "a + b @"+op+" c;")
	}
	expression(t, "a = b += c", "Assign:=(Id:a Assign:+=(Id:b Id:c))")
	expression(t, "a, b, c", "Comma(Comma(Id:a Id:b) Id:c)")
	expression(t, "a, (b, c)", "Comma(Id:a Comma(Id:b Id:c))")
	expression(t, "a = b, c = d", "Comma(Assign:=(Id:a Id:b) Assign:=(Id:c Id:d))")
}

func TestSameSourceTwice(t *testing.T) {
	const s = "function f(a) { return [a.b, 'c', 1 + 2]; } f({d: 3});"
	first, _, _ := Parse(s)
	want := slices.Clone(first)
	second, _, _ := Parse(s)
	for i := range first {
		first[i] = api.Node{Kind: -1, Text: "spoilt"}
	}
	third, _, _ := Parse(s)
	if len(want) == 0 || !slices.Equal(second, want) || !slices.Equal(third, want) {
		t.Error(second, third)
	}
	places := Kids(want, 0)
	places[0] = -1
	if !slices.Equal(Kids(want, 0), []int{1, 12}) {
		t.Error(Kids(want, 0))
	}
}
