package early

import (
	"math"
	"math/rand"
	"slices"
	"strings"
	"testing"

	"septum/api"
	"septum/show"
	"septum/syn"
)

// parsed tells the tree of a source that has one.
func parsed(t *testing.T, s string) []api.Node {
	t.Helper()
	l, at, e := syn.Parse(s)
	if e != api.OK {
		t.Fatalf("%q is refused at %d: %d", s, at, int(e))
	}
	return l
}

// checks holds what Check tells of a list.
func checks(t *testing.T, l []api.Node, wantAt int, want api.Errno) {
	t.Helper()
	before := slices.Clone(l)
	if at, e := Check(l); at != wantAt || e != want {
		t.Errorf("%v: %d, %d, not %d, %d", l, at, int(e), wantAt, int(want))
	}
	if !slices.Equal(l, before) {
		t.Errorf("%v: changed", before)
	}
}

// refuses holds that a source has a tree, but is refused for the node there.
func refuses(t *testing.T, s string, wantAt int) {
	t.Helper()
	l := parsed(t, s)
	if at, e := Check(l); at != wantAt || e != api.ErrEarly {
		t.Errorf("Check(%q) = %d, %d, not %d", s, at, int(e), wantAt)
	}
	if at, _ := newModel(l).check(); at != wantAt {
		t.Errorf("the model's Check(%q) = %d, not %d", s, at, wantAt)
	}
	if l, at, e := Source(s); len(l) != 0 || at != 0 || e != api.ErrEarly {
		t.Errorf("Source(%q) = %v, %d, %d", s, l, at, int(e))
	}
}

// takes holds that a source may be.
func takes(t *testing.T, s string) {
	t.Helper()
	l := parsed(t, s)
	if at, e := Check(l); at != 0 || e != api.OK {
		t.Errorf("Check(%q) = %d, %d", s, at, int(e))
	}
	if at, _ := newModel(l).check(); at != -1 {
		t.Errorf("the model's Check(%q) = %d", s, at)
	}
	if got, at, e := Source(s); !slices.Equal(got, l) || at != 0 || e != api.OK {
		t.Errorf("Source(%q) = %v, %d, %d", s, got, at, int(e))
	}
}

type refused struct {
	s  string
	at int
}

func TestOrdinarySources(t *testing.T) {
	for _, s := range []string{
		"", ";", "1 + 1;", "a.b = 1 + 2;", "var a, b = a; function f(x, y) { return x + y; } f(a, b);",
		"for (var i = 0; i < 3; i++) { if (i === 1) continue; if (i === 2) break; }",
		"try { throw {a: 1, b: 2}; } catch (e) { delete e.a; } finally { ; }",
	} {
		takes(t, s)
	}
}

// Where the names eval and arguments, which stand for %, may not be said.
func TestNamesThatMayNotBeSaid(t *testing.T) {
	for _, x := range []refused{
		{"%;", 2}, {"a = %;", 4}, {"% = 1;", 3}, {"% += 1;", 3}, {"%++;", 3}, {"--%;", 3}, {"typeof %;", 3}, {"%.a;", 3}, {"%[a];", 3}, {"a[%];", 4},
		{"%();", 3}, {"a(%);", 4}, {"new %;", 3}, {"[%];", 3}, {"a = {b: %};", 6}, {"a ? b : %;", 5}, {"a, %;", 4}, {"(%);", 2},
		{"throw %;", 2}, {"if (%) ;", 2}, {"if (a) ; else %;", 5}, {"while (a) { %; }", 5}, {"do ; while (%);", 3}, {"for (%;;) ;", 3}, {"for (;%;) ;", 3}, {"for (;;%) ;", 4},
		{"var %;", 2}, {"var a, % = 1;", 3}, {"for (var % = 1;;) ;", 3}, {"for (var a, %;;) ;", 4}, {"{ var %; }", 3}, {"var a = %;", 3},
		{"function %() {}", 1}, {"function a() { function %() {} }", 3}, {"function a(%) {}", 2}, {"function a(b, %) {}", 3},
		{"a = function %() {};", 4}, {"a = function (%) {};", 5}, {"a = function b(c, %) {};", 6}, {"function a() { function b() { return %; } }", 6},
		{"try {} catch (%) {}", 3}, {"try {} catch (%) {} finally {}", 3}, {"try { %; } finally {}", 4}, {"try {} catch (a) {} finally { %; }", 8},
	} {
		for _, name := range []string{"eval", "arguments"} {
			refuses(t, strings.ReplaceAll(x.s, "%", name), x.at)
		}
		for _, name := range []string{"eva", "evals", "Eval", "EVAL", "_eval", "eval0", "$eval", "argument", "arguments_", "Arguments", "callee", "undefined", "NaN", "get", "of", "async", "Function", "z"} {
			takes(t, strings.ReplaceAll(x.s, "%", name))
		}
	}
}

// As keys, and in texts, all names may be said.
func TestNamesThatAreNone(t *testing.T) {
	for _, s := range []string{
		"a.%;", "a.% = 1;", "delete a.%;", "a.%();", "this.%;", "a = {%: 1};", "a = {'%': 1};", "a = {%: 1, b: {%: 2}};", "'%';", "a['%'];", "a = {b: '%'};", "delete '%';",
	} {
		for _, name := range []string{"eval", "arguments", "z"} {
			takes(t, strings.ReplaceAll(s, "%", name))
		}
	}
}

func TestParams(t *testing.T) {
	for _, x := range []refused{
		{"function f(a, a) {}", 3}, {"function f(a, b, a) {}", 4}, {"function f(a, b, b) {}", 4}, {"function f(a, a, a) {}", 3}, {"function f(a, b, b, a) {}", 4}, {"function f(f, f) {}", 3},
		{"a = function (a, a) {};", 6}, {"a = function a(b, b) {};", 6}, {"function f(a, b) {} function g(a, b, a) {}", 8},
		{"function f(a) { function g(b, b) {} }", 6}, {"function f(a, b, c) { } a = function (c, b, d, b) {};", 13},
	} {
		refuses(t, x.s, x.at)
	}
	for _, s := range []string{
		"function f() {}", "function f(a) {}", "function f(a, b, c) {}", "function f(a, A, _a, a_, a0, $a) {}", "function f(f) {}", "a = function a(a) {};", "a = function (a, b) {};",
		"function f(a, b) {} function g(b, a) {}", "function f(a) {} function f(a) {}", "function f(a) { function g(a) { return function (a) {}; } }", "f(function (a) {}, function (a) {});",
		"function f(a) { var a; function a() {} try {} catch (a) {} }", "function f(a) { g(a, a); }",
	} {
		takes(t, s)
	}
	lots := many(600, "p")
	takes(t, "function f("+strings.Join(lots, ", ")+") {}")
	for _, i := range []int{0, 1, 300, 599} {
		refuses(t, "function f("+strings.Join(append(lots, lots[i]), ", ")+") {}", 602)
	}
}

func TestProps(t *testing.T) {
	for _, x := range []refused{
		{"x = {a: 1, 'a': 2};", 7}, {"x = {a: 1, a: 1};", 7}, {"x = {a: 1, b: 1, a: 1};", 9}, {"x = {a: 1, b: 1, b: 1, a: 1};", 9}, {"x = {a: 1, a: 1, a: 1};", 7},
		{"x = {1: 1, '1': 1};", 7}, {"x = {1: 1, 0x1: 1};", 7}, {"x = {0x10: 1, 16: 1};", 7}, {"x = {9007199254740992: 1, '9007199254740992': 1};", 7},
		{"x = {'': 1, '': 1};", 7}, {"x = {if: 1, 'if': 1};", 7}, {"x = {eval: 1, eval: 1};", 7}, {"x = {'\\u0061': 1, a: 1};", 7}, {"x = {'\\n': 1, '\\u000a': 1};", 7}, {"x = {'\u00e9': 1, '\\u00e9': 1};", 7},
		{"x = {a: {a: 1}, a: 1};", 9}, {"x = {a: {a: 1, a: 1}};", 9}, {"x = {a: [{b: 1}], c: {d: 1, d: 1}};", 14}, {"x = {a: 1, b: function () { return {a: 1, b: 2, a: 3}; }};", 16},
		{"({__proto__: 1, __proto__: 1});", 5},
	} {
		refuses(t, x.s, x.at)
	}
	for _, s := range []string{
		"x = {};", "x = {a: 1};", "x = {a: 1, b: 1, c: 1};", "x = {a: 1, A: 1, 'a ': 1, ' a': 1, '': 1};", "x = {1: 1, '01': 1, '1.0': 1, '0x1': 1, '+1': 1};", "x = {a: 1, b: a, c: a};",
		"x = {a: {a: {a: 1}}};", "x = {a: {b: 1}, b: {a: 1}};", "x = [{a: 1}, {a: 1}];", "x = {a: 1}; x = {a: 1};", "x = {a: [{a: 1}, {a: 1}]};", "x = {a: function (a) { return {a: a}; }};", "x = {a: 'a', b: 'a'};",
	} {
		takes(t, s)
	}
	lots := many(300, "p")
	takes(t, "x = {"+strings.Join(lots, ": 1, ")+": 1};")
	for _, i := range []int{0, 1, 150, 299} {
		refuses(t, "x = {"+strings.Join(append(lots, "'"+lots[i]+"'"), ": 1, ")+": 1};", 605)
	}
}

func TestDelete(t *testing.T) {
	for _, x := range []refused{
		{"delete a;", 2}, {"delete (a);", 2}, {"delete ((a));", 2}, {"delete undefined;", 2}, {"delete eval;", 2}, {"!delete a;", 3}, {"delete delete a;", 3}, {"delete !delete a;", 4},
		{"delete a + b;", 3}, {"x = {a: delete b};", 6}, {"while (delete a) ;", 2}, {"function f(a) { return delete a; }", 5}, {"delete a.b; delete a;", 6}, {"delete a[delete b];", 5},
	} {
		refuses(t, x.s, x.at)
	}
	for _, s := range []string{
		"delete a.b;", "delete a[b];", "delete (a.b);", "delete a();", "delete new a;", "delete 1;", "delete 'a';", "delete this;", "delete null;", "delete [a];", "delete !a;", "delete typeof a;", "delete (a, b);", "delete (a = b);",
		"delete (a + b);", "delete (a ? b : c);", "delete a++;", "delete function a() {};", "delete {a: a};", "void a;", "typeof a;", "+a;", "-a;", "~a;", "!a;", "a.delete;", "a['delete'];", "x = {delete: a};",
	} {
		takes(t, s)
	}
}

func TestReturn(t *testing.T) {
	for _, x := range []refused{
		{"return;", 1}, {"return a;", 1}, {"{ return; }", 2}, {"; return;", 2}, {"{ { return 1; } }", 3}, {"if (a) return;", 3}, {"if (a) ; else return;", 4}, {"while (a) return;", 3}, {"do return; while (a);", 2},
		{"for (;;) return;", 5}, {"try { return; } finally {}", 3}, {"try {} catch (a) { return; }", 5}, {"try {} finally { return; }", 5},
		{"return function () { return; };", 1}, {"function f() { return; } return;", 4}, {"a = function () { return; }; return;", 7}, {"function f() {} { return; }", 4},
	} {
		refuses(t, x.s, x.at)
	}
	for _, s := range []string{
		"function f() { return; }", "function f() { return 1; }", "function f() { { return; } }", "function f() { if (a) return; else return 1; }", "function f() { for (;;) return; return; }",
		"function f() { try { return; } catch (a) { return; } finally { return; } }", "function f() { function g() { return; } return; }", "a = function () { return; };", "while (function () { return; }) ;",
		"function f(a) { return function () { return a; }; }", "a = {b: function () { return; }};", "{ a = function () { while (a) { return; } }; }",
	} {
		takes(t, s)
	}
}

func TestBreakAndContinue(t *testing.T) {
	for _, x := range []refused{
		{"%", 1}, {"; %", 2}, {"{ % }", 2}, {"if (a) %", 3}, {"if (a) ; else %", 4}, {"try { % } finally {}", 3}, {"try {} catch (a) { % }", 5}, {"try {} finally { % }", 5}, {"function f() { % }", 3}, {"a = function () { % };", 6},
		{"while (a) ; %", 4}, {"do ; while (a); %", 4}, {"for (;;) ; %", 6}, {"for (;;) % %", 6}, {"{ while (a) % } %", 5}, {"function f() { while (a) % } %", 6},
		{"while (a) b = function () { % };", 8}, {"do a = function () { % }; while (b);", 7}, {"for (;;) a = function () { % };", 10}, {"while (a) { while (b) { (function () { % }); } }", 10},
		{"while (function () { % }) ;", 4}, {"do ; while (function () { % });", 5}, {"for (a = function () { % };;) ;", 7}, {"for (var a = function () { % };;) ;", 6}, {"for (;function () { % };) ;", 5}, {"for (;;function () { % }) ;", 6},
		{"while (a) { while (function () { % }) % }", 7}, {"while (a) (function () { while (b) % % });", 9}, {"while (a) { % (function () { % }); }", 8},
	} {
		for _, s := range []string{"break;", "continue;"} {
			refuses(t, strings.ReplaceAll(x.s, "%", s), x.at)
		}
	}
	for _, s := range []string{
		"while (a) %", "do % while (a);", "for (;;) %", "for (var a;;) %", "for (a;;) %", "while (a) { % }", "while (a) { { ; % } % }", "for (;;) if (a) % else %", "while (a) try { % } catch (b) { % } finally { % }",
		"while (a) while (b) %", "while (a) { while (b) ; % }", "do { for (;;) ; % } while (a);", "for (;;) do % while (a);", "function f() { while (a) % }", "a = function () { for (;;) { % } };", "while (a) b = function () { do % while (a); };",
		"while (a) { b = function () {}; % }", "while (a) { (function () { while (b) % }); % }", "for (a = function () { while (b) % };;) %", "if (a) while (b) %", "try { while (a) % } finally { while (a) % }",
	} {
		for _, what := range []string{"break;", "continue;"} {
			takes(t, strings.ReplaceAll(s, "%", what))
		}
	}
}

// Of several the first from the front on, which is not always the one that stands first in the chapter.
func TestFirst(t *testing.T) {
	for _, x := range []refused{
		{"eval; break;", 2}, {"break; eval;", 1}, {"return eval;", 1}, {"return; eval;", 1}, {"delete eval; a = {b: 1, b: 1};", 2}, {"a = {b: eval, b: 1};", 6}, {"a = {b: 1, b: eval};", 7}, {"a = {b: 1, b: {c: 1, c: 1}};", 7},
		{"function eval(a, a) { break; }", 1}, {"function f(a, a) { return eval; } return;", 3}, {"function f(eval, a, a) {}", 2}, {"function f(eval, eval) {}", 2}, {"var a = eval, arguments;", 3}, {"var arguments = eval;", 2},
		{"try { return; } catch (eval) { break; }", 3}, {"try {} catch (eval) { break; }", 3}, {"while (eval) { return; }", 2}, {"while (a) { return; } continue;", 4}, {"while (a) { break; return delete a; }", 5},
		{"function f() { return; } break; return;", 4},
	} {
		refuses(t, x.s, x.at)
	}
}

// What show.Check says comes first, wherever it stands.
func TestWhatMayNotBe(t *testing.T) {
	checks(t, nil, 0, api.ErrArg)
	checks(t, []api.Node{}, 0, api.ErrArg)
	checks(t, []api.Node{{}}, 0, api.ErrForm)
	checks(t, []api.Node{{Kind: api.NdBreak, Size: 1}}, 0, api.ErrForm)
	checks(t, []api.Node{{Kind: api.NdProgram, Size: 1}}, 0, api.OK)
	l := parsed(t, "eval; delete a; break; return; b;")
	checks(t, l, 2, api.ErrEarly)
	l[len(l)-1].Text = "if"
	checks(t, l, len(l)-1, api.ErrForm)
	l[1].Kind = 0
	checks(t, l, 0, api.ErrForm)
	checks(t, l[:3], 0, api.ErrForm)
	takes(t, strings.Repeat("!", api.MaxDepth-3)+"a;")
	refuses(t, strings.Repeat("!", api.MaxDepth-3)+"eval;", api.MaxDepth-1)
	deep := parsed(t, strings.Repeat("!", api.MaxDepth-3)+"eval;")
	deep = slices.Insert(deep, 1, api.Node{Kind: api.NdBlock, N: 1})
	for i := range 2 {
		deep[i].Size = len(deep) - i
	}
	checks(t, deep, 0, api.ErrDeep)
	lists(func(l []api.Node) {
		if at, e := show.Check(l); e != api.OK {
			checks(t, l, at, e)
		} else {
			Check(l)
		}
	})
}

// lists makes lists that are no trees, or are so by chance.
func lists(use func(l []api.Node)) {
	numbers := []int{math.MinInt, -1, 0, 1, 2, 3, 40, math.MaxInt}
	for _, n := range numbers {
		for _, size := range numbers {
			for _, kind := range []int{api.NdProgram, api.NdBody, api.NdBlock, api.NdVar, api.NdDecl, api.NdNamed, api.NdUnary, api.NdBreak, 0, -1, math.MaxInt} {
				same := slices.Repeat([]api.Node{{Kind: kind, N: n, Size: size, Text: "delete"}}, 40)
				use(same)
				same[0] = api.Node{Kind: api.NdProgram, N: 1, Size: 40}
				use(same)
			}
		}
	}
	pick := rand.New(rand.NewSource(6)).Intn
	for range 20000 {
		l, _, _ := syn.Parse("function f(a) { var b = 1; while (a) { var c; break; } return delete a.b; } var d = {e: f};")
		for range 1 + pick(4) {
			n := &l[pick(len(l))]
			switch pick(4) {
			case 0:
				n.Kind = pick(api.NdComma + 2)
			case 1:
				n.N = pick(6) - 1
			case 2:
				n.Size = pick(len(l)) - 1
			default:
				n.Text = []string{"", "a", "eval", "delete", "if", "+"}[pick(6)]
			}
		}
		use(l)
		use(l[:pick(len(l))])
		use(l[pick(len(l)):])
	}
}

// Sources that are made: what is told of each is what the model tells.
func TestMadeSources(t *testing.T) {
	k := maker{pick: rand.New(rand.NewSource(6)).Intn}
	var seen [6]int
	may := 0
	for i := range 30000 {
		k.clean = []int{20, 100, 1000}[i%3]
		s := k.elements(where{deep: 1 + i%7})
		l, at, e := syn.Parse(s)
		if e == api.ErrLong {
			continue
		}
		if e != api.OK {
			t.Fatalf("%q is refused at %d: %d", s, at, int(e))
		}
		at, faults := newModel(l).check()
		if at < 0 {
			takes(t, s)
			may++
		} else {
			refuses(t, s, at)
		}
		for _, f := range faults {
			seen[f]++
		}
	}
	for f, times := range seen {
		if times < 100 || may < 1000 {
			t.Errorf("fault %d only %d times; only %d may be", f, times, may)
		}
	}
}
