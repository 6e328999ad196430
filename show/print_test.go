package show

import (
	"slices"
	"strings"
	"testing"

	"septum/api"
	"septum/syn"
)

// writes holds that the tree of a source is written like that.
func writes(t *testing.T, s, want string) {
	t.Helper()
	l, at, e := syn.Parse(s)
	if e != api.OK {
		t.Fatalf("Parse(%q): %d, %d", s, at, int(e))
	}
	before := slices.Clone(l)
	if got, e := Print(l); got != want || e != api.OK {
		t.Errorf("%q: %q, %d, not %q", s, got, int(e), want)
	}
	if !slices.Equal(l, before) {
		t.Errorf("%q: the tree was changed", s)
	}
	back, at, e := syn.Parse(want)
	if !slices.Equal(back, l) || e != api.OK {
		t.Errorf("%q: %v, %d, %d", want, back, at, int(e))
	}
}

// writesExpr holds how an expression is written by itself, and (between brackets or not) beside others.
func writesExpr(t *testing.T, s, alone, beside string) {
	t.Helper()
	writes(t, "("+s+");", "("+alone+");\n")
	writes(t, "if ("+s+") ;", "if ("+alone+") ;\n")
	writes(t, "while ("+s+") ;", "while ("+alone+") ;\n")
	writes(t, "do ; while ("+s+");", "do ; while ("+alone+");\n")
	writes(t, "for (("+s+");("+s+");("+s+")) ;", "for (("+alone+"); "+alone+"; "+alone+") ;\n")
	writes(t, "a[("+s+")];", "(a["+alone+"]);\n")
	writes(t, "var a = ("+s+");", "var a = "+beside+";\n")
	writes(t, "return ("+s+");", "return "+beside+";\n")
	writes(t, "throw ("+s+");", "throw "+beside+";\n")
	writes(t, "[("+s+"), ("+s+")];", "(["+beside+", "+beside+"]);\n")
	writes(t, "({a: ("+s+")});", "({\"a\": "+beside+"});\n")
	writes(t, "("+s+").b;", "("+beside+".b);\n")
	writes(t, "("+s+")[b];", "("+beside+"[b]);\n")
	writes(t, "("+s+")(("+s+"), b);", "("+beside+"("+beside+", b));\n")
	writes(t, "new ("+s+")(("+s+"), b);", "(new "+beside+"("+beside+", b));\n")
	writes(t, "typeof ("+s+");", "(typeof "+beside+");\n")
	writes(t, "("+s+") + ("+s+");", "("+beside+" + "+beside+");\n")
	writes(t, "("+s+") && ("+s+");", "("+beside+" && "+beside+");\n")
	writes(t, "("+s+") ? ("+s+") : ("+s+");", "("+beside+" ? "+beside+" : "+beside+");\n")
	writes(t, "a = ("+s+");", "(a = "+beside+");\n")
	writes(t, "("+s+"), ("+s+");", "("+beside+", "+beside+");\n")
}

// holds holds how an expression is written that needs no brackets; parts, how one that does.
func holds(t *testing.T, s, want string) {
	t.Helper()
	writesExpr(t, s, want, want)
}

func parts(t *testing.T, s, want string) {
	t.Helper()
	writesExpr(t, s, want, "("+want+")")
}

func TestExample(t *testing.T) {
	writes(t, "(a+b*2);", "(a + (b * 2));\n")
	writes(t, "if(a){}else b=1;", "if (a) { } else (b = 1);\n")
}

func TestProgramsAndFunctions(t *testing.T) {
	writes(t, "", "")
	writes(t, "/* */", "")
	writes(t, "; ;a;function f(){}", ";\n;\n(a);\nfunction f() { }\n")
	writes(t, "function f(a,b,a){var c;function g(){}return;}", "function f(a, b, a) { var c; function g() { } return; }\n")
	writes(t, "function $(a){}", "function $(a) { }\n")
}

func TestStatements(t *testing.T) {
	writes(t, "{}", "{ }\n")
	writes(t, "{;{a;}}", "{ ; { (a); } }\n")
	writes(t, "var a;", "var a;\n")
	writes(t, "var a,b=1,c=d=2,e=(f,g);", "var a, b = 1, c = (d = 2), e = (f, g);\n")
	writes(t, ";", ";\n")
	writes(t, "a,b;", "(a, b);\n")
	writes(t, "({});", "({});\n")
	writes(t, "if(a)b;", "if (a) (b);\n")
	writes(t, "if(a,b){}else{}", "if (a, b) { } else { }\n")
	writes(t, "if(a)if(b);else;else if(c);else;", "if (a) if (b) ; else ; else if (c) ; else ;\n")
	writes(t, "if(a)if(b);else;", "if (a) if (b) ; else ;\n")
	writes(t, "if(a){if(b);}else;", "if (a) { if (b) ; } else ;\n")
	writes(t, "if(a)do if(b);while(c);else;", "if (a) do if (b) ; while (c); else ;\n")
	writes(t, "while(a)b;", "while (a) (b);\n")
	writes(t, "do{}while(a);", "do { } while (a);\n")
	writes(t, "do while(a);while(b);", "do while (a) ; while (b);\n")
	writes(t, "break;continue;return;", "break;\ncontinue;\nreturn;\n")
	writes(t, "return a;", "return a;\n")
	writes(t, "return a,b;", "return (a, b);\n")
	writes(t, "throw a+1;", "throw (a + 1);\n")
	writes(t, "throw a;", "throw a;\n")
	writes(t, "try{}catch(e){}", "try { } catch (e) { }\n")
	writes(t, "try{a;}finally{b;}", "try { (a); } finally { (b); }\n")
	writes(t, "try{}catch(e){;}finally{}", "try { } catch (e) { ; } finally { }\n")
}

func TestFors(t *testing.T) {
	writes(t, "for(;;)a;", "for (;;) (a);\n")
	writes(t, "for(a;;);", "for ((a);;) ;\n")
	writes(t, "for(;a;);", "for (; a;) ;\n")
	writes(t, "for(;;a);", "for (;; a) ;\n")
	writes(t, "for(a;b;);", "for ((a); b;) ;\n")
	writes(t, "for(;a;b);", "for (; a; b) ;\n")
	writes(t, "for(var a;;b,c);", "for (var a;; b, c) ;\n")
	writes(t, "for(var a=1,b;a<b;a++){}", "for (var a = 1, b; a < b; a++) { }\n")
	writes(t, "for(a in b;;);", "for ((a in b);;) ;\n")
}

func TestLeaves(t *testing.T) {
	holds(t, "a", "a")
	holds(t, "$_9", "$_9")
	holds(t, "0", "0")
	holds(t, "0x1F", "31")
	holds(t, "9007199254740992", "9007199254740992")
	holds(t, "true", "true")
	holds(t, "false", "false")
	holds(t, "null", "null")
	holds(t, "this", "this")
	holds(t, "''", `""`)
	holds(t, `'a"\'\\\n\r\t\0\u001f\u00e9'`, `"a\"'\\\n\r\t\u0000\u001f`+"\u00e9"+`"`)
	holds(t, "[]", "[]")
	holds(t, "{}", "{}")
}

func TestExpressions(t *testing.T) {
	holds(t, "[a,b=1,(c,d)]", "[a, (b = 1), (c, d)]")
	holds(t, "[[],{}]", "[[], {}]")
	holds(t, "{a:1,'b c':c+d,if:[],0x10:{},'\\n':function(){}}", `{"a": 1, "b c": (c + d), "if": [], "16": {}, "\n": function () { }}`)
	holds(t, "function(){}", "function () { }")
	holds(t, "function f(a,b){return a;}", "function f(a, b) { return a; }")
	parts(t, "a.b", "a.b")
	parts(t, "1 .if", "1.if")
	parts(t, "a.b.c", "(a.b).c")
	parts(t, "[].a", "[].a")
	parts(t, "{}.a", "{}.a")
	parts(t, "function(){}.a", "function () { }.a")
	parts(t, "a[b]", "a[b]")
	parts(t, "a[b,c][d]", "(a[b, c])[d]")
	parts(t, "a()", "a()")
	parts(t, "a.b(c,d+e)(f)", "((a.b)(c, (d + e)))(f)")
	parts(t, "new a", "new a()")
	parts(t, "new a.b(c,d+e)(f)", "(new (a.b)(c, (d + e)))(f)")
	parts(t, "new(a())", "new (a())()")
	parts(t, "new new a(1)(2)", "new (new a(1))(2)")
	parts(t, "new function(){}", "new function () { }()")
	for _, op := range signsOf(api.NdUnary) {
		parts(t, op+" a", op+" a")
		parts(t, op+" "+op+" a", op+" ("+op+" a)")
		parts(t, op+"[]", op+" []")
	}
	for _, op := range signsOf(api.NdUpdate) {
		parts(t, op+"a", op+"a")
		parts(t, "a"+op, "a"+op)
		parts(t, op+"a.b", op+"(a.b)")
		parts(t, "a[b]"+op, "(a[b])"+op)
	}
	for _, op := range append(signsOf(api.NdBinary), signsOf(api.NdLogic)...) {
		parts(t, "a "+op+" b", "a "+op+" b")
		parts(t, "a "+op+" b "+op+" c", "(a "+op+" b) "+op+" c")
		parts(t, "a "+op+"(b "+op+" c)", "a "+op+" (b "+op+" c)")
	}
	parts(t, "a?b:c", "a ? b : c")
	parts(t, "a?b?c:d:e?f:g", "a ? (b ? c : d) : (e ? f : g)")
	for _, op := range signsOf(api.NdAssign) {
		parts(t, "a"+op+"b", "a "+op+" b")
		parts(t, "a.b"+op+"c[d]"+op+"e", "(a.b) "+op+" ((c[d]) "+op+" e)")
	}
	parts(t, "a,b", "a, b")
	parts(t, "a,b,c", "(a, b), c")
	parts(t, "a,(b,c)", "a, (b, c)")
}

// What may not be is not written; the error is Check's.
func TestPrintRefuses(t *testing.T) {
	deep := slices.Repeat([]api.Node{{Kind: api.NdUnary, N: 1, Text: "!"}}, api.MaxDepth)
	deep = append([]api.Node{{Kind: api.NdProgram, N: 1}, {Kind: api.NdExpr, N: 1}}, deep...)
	deep = append(deep, api.Node{Kind: api.NdTrue})
	for i := range deep {
		deep[i].Size = len(deep) - i
	}
	for _, x := range []struct {
		l    []api.Node
		want api.Errno
	}{
		{nil, api.ErrArg},
		{[]api.Node{}, api.ErrArg},
		{[]api.Node{{}}, api.ErrForm},
		{[]api.Node{{Kind: api.NdProgram, Size: 2}}, api.ErrForm},
		{[]api.Node{{Kind: api.NdProgram, N: 1, Size: 2}, {Kind: api.NdId, Text: "a", Size: 1}}, api.ErrForm},
		{[]api.Node{{Kind: api.NdId, Text: "a", Size: 1}}, api.ErrForm},
		{deep, api.ErrDeep},
	} {
		if s, e := Print(x.l); s != "" || e != x.want {
			t.Errorf("%v: %q, %d, not %d", x.l, s, int(e), int(x.want))
		}
	}
}

func TestWhatIsWrittenIsParsed(t *testing.T) {
	k, met := newMaker(), map[int]bool{}
	for range 20000 {
		m := k.program(1 + k.pick(6))
		l := m.laid()
		s, e := Print(l)
		if m.height() > api.MaxDepth || e != api.OK {
			t.Fatalf("%v: %q, %d", l, s, int(e))
		}
		if len(s) > api.MaxSource {
			continue
		}
		back, at, e := syn.Parse(s)
		if !slices.Equal(back, l) || at != 0 || e != api.OK {
			t.Fatalf("%q: %v, %d, %d, not %v", s, back, at, int(e), l)
		}
		for _, n := range l {
			met[n.Kind] = true
		}
	}
	if len(met) != api.NdComma {
		t.Error("kinds that were met", met)
	}
}

// As high as a tree may be, what is written has no more brackets open than a source may.
func TestHighestTreesAreParsed(t *testing.T) {
	for _, x := range []struct {
		kind, times int
		about       func(m made) made
	}{
		{api.NdExpr, 57, func(m made) made { return nd(api.NdCall, "", id("a"), m) }},
		{api.NdExpr, 57, func(m made) made { return nd(api.NdCall, "", m, id("b")) }},
		{api.NdExpr, 57, func(m made) made { return nd(api.NdIndex, "", m, id("a")) }},
		{api.NdExpr, 28, func(m made) made { return nd(api.NdObject, "", nd(api.NdProp, "a", m)) }},
		{api.NdReturn, 57, func(m made) made { return nd(api.NdNew, "", id("a"), m) }},
		{api.NdThrow, 57, func(m made) made { return nd(api.NdComma, "", m, id("a")) }},
		{api.NdExpr, 19, func(m made) made { return nd(api.NdFunc, "", nd(api.NdBody, "", nd(api.NdReturn, "", m))) }},
	} {
		m := id("a")
		for range x.times {
			m = x.about(m)
		}
		l := nd(api.NdProgram, "", nd(x.kind, "", m)).laid()
		s, e := Print(l)
		back, at, f := syn.Parse(s)
		if !slices.Equal(back, l) || e != api.OK || at != 0 || f != api.OK {
			t.Errorf("%s: %d, %d, %d", s, int(e), at, int(f))
		}
	}
}

// A tree may be wider than any source.
func TestWideTrees(t *testing.T) {
	const many = 100000
	m := nd(api.NdProgram, "", slices.Repeat([]made{nd(api.NdThrow, "", id("a"))}, many)...)
	if s, e := Print(m.laid()); s != strings.Repeat("throw a;\n", many) || e != api.OK {
		t.Error(len(s), int(e))
	}
	long := strings.Repeat("a", many)
	if s, e := Print(nd(api.NdProgram, "", nd(api.NdThrow, "", id(long))).laid()); s != "throw "+long+";\n" || e != api.OK {
		t.Error(len(s), int(e))
	}
}
