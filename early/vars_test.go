package early

import (
	"math"
	"math/rand"
	"runtime/debug"
	"slices"
	"strings"
	"testing"

	"septum/api"
	"septum/syn"
)

// makes holds which names each of a source's scopes makes, in the order in which the scopes stand: its Vars,
// and behind a colon its functions by their names. An expression's function without a name has none there.
func makes(t *testing.T, s string, want ...string) {
	t.Helper()
	l := parsed(t, s)
	before := slices.Clone(l)
	var got []string
	for i, n := range l {
		if n.Kind != api.NdProgram && n.Kind != api.NdBody {
			continue
		}
		var funcs []string
		for _, f := range Funcs(l, i) {
			if l[f].Kind != api.NdNamed {
				t.Errorf("%q: no function at %d", s, f)
			}
			funcs = append(funcs, l[f].Text)
		}
		got = append(got, strings.Join(Vars(l, i), " ")+":"+strings.Join(funcs, " "))
		holdsModel(t, l, i)
	}
	if !slices.Equal(got, want) {
		t.Errorf("%q: %q, not %q", s, got, want)
	}
	if !slices.Equal(l, before) {
		t.Errorf("%q: changed", s)
	}
}

func holdsModel(t *testing.T, l []api.Node, i int) {
	t.Helper()
	m := newModel(l)
	if got, want := Vars(l, i), m.vars(i); !slices.Equal(got, want) {
		t.Errorf("Vars(%v, %d) = %q, not %q", l, i, got, want)
	}
	if got, want := Funcs(l, i), m.funcs(i); !slices.Equal(got, want) {
		t.Errorf("Funcs(%v, %d) = %v, not %v", l, i, got, want)
	}
}

func TestNamesOfScopes(t *testing.T) {
	makes(t, "", ":")
	makes(t, "a; b = 1; (c);", ":")
	makes(t, "var a;", "a:")
	makes(t, "var b, a; var c;", "b a c:")
	makes(t, "var a; function f() { var b; } for (var c = 1, a;;) ;", "a c:f", "b:")
	makes(t, "function f() {}", ":f", ":")
	makes(t, "function g() {} function f() {} function g() {}", ":g f g", ":", ":", ":")
	makes(t, "function f() { function g() { var a; function h() {} } var b; }", ":f", "b:g", "a:h", ":")
	makes(t, "var f; function f() { var f; }", "f:f", "f:")
	// Even where Check refuses it.
	makes(t, "var eval, arguments; function eval() { var eval; }", "eval arguments:eval", "eval:")
}

func TestEachNameOnce(t *testing.T) {
	makes(t, "var a, a;", "a:")
	makes(t, "var b, a, b; var a, c, b;", "b a c:")
	makes(t, "{ var b; } var a; { var b; } if (a) var a;", "b a:")
	makes(t, "var a; function f() { var a, b; function g() { var b, a, b; } var a; } var b, a;", "a b:f", "a b:g", "b a:")
	makes(t, "var A, a, _a, a0, $;", "A a _a a0 $:")
	lots := many(500, "v")
	makes(t, "var "+strings.Join(lots, ", ")+";", strings.Join(lots, " ")+":")
	makes(t, "var "+strings.Join(append(slices.Clone(lots[:300]), lots[:300]...), ", ")+";", strings.Join(lots[:300], " ")+":")
}

// In whatever statement a name stands it belongs to the scope.
func TestVarsOfAllStatements(t *testing.T) {
	for _, s := range []string{
		"var a;", "{ var a; }", "{ { { var a; } } }", "if (b) var a;", "if (b) ; else var a;", "if (b) ; else if (c) ; else { var a; }", "while (b) var a;", "do var a; while (b);", "for (var a;;) ;", "for (;;) var a;", "for (b;c;d) { var a; }",
		"try { var a; } finally {}", "try {} catch (b) { var a; }", "try {} finally { var a; }", "try {} catch (b) {} finally { { var a; } }", "while (b) for (;;) do if (c) try {} finally { for (var a = 1;;) ; } while (d);",
		"; var a = 1;", "throw b; var a;", "var a = b = c;", "for (var a = {b: [c]};;) ;",
	} {
		makes(t, s, "a:")
		makes(t, "var z; "+s+" var y;", "z a y:")
		makes(t, "function f(b) { "+s+" }", ":f", "a:")
	}
}

// Names that no var makes.
func TestNamesOfOthers(t *testing.T) {
	makes(t, "try {} catch (a) {}", ":")
	makes(t, "a = b; c.d = 1; d[e]++;", ":")
	makes(t, "a = {b: 1, c: d};", ":")
	makes(t, "function f(a, b) { return a; }", ":f", ":")
	makes(t, "a = function f(b) { return f; };", ":", ":")
	makes(t, "a = function () { var b; function g() {} }, c = 1;", ":", "b:g", ":")
	makes(t, "var a = function f(b) { var c; }, d;", "a d:", "c:")
	makes(t, "while (function () { var a; }) { var b; }", "b:", "a:")
	makes(t, "for (var a = function () { var b; }; function () { var c; }; function () { var d; }) var e = function () { var f; };", "a e:", "b:", "c:", "d:", "f:")
	makes(t, "if (a) { f(function () { function g() {} }); }", ":", ":g", ":")
}

func TestNamesInDeepTrees(t *testing.T) {
	open, end := strings.Repeat("{", api.MaxDepth-3), strings.Repeat("}", api.MaxDepth-3)
	makes(t, open+" var a; "+end+" var b;", "a b:")
	makes(t, "function f() {"+open[2:]+" var a; "+end[2:]+" var b; }", ":f", "a b:")
	makes(t, "var b = "+strings.Repeat("[", api.MaxDepth-4)+"1"+strings.Repeat("]", api.MaxDepth-4)+", a;", "b a:")
	makes(t, strings.Repeat("function f() { var a; ", 28)+strings.Repeat("} ", 28), append(append([]string{":f"}, slices.Repeat([]string{"a:f"}, 27)...), "a:")...)
}

func TestNamesOfMadeSources(t *testing.T) {
	k := maker{pick: rand.New(rand.NewSource(7)).Intn, clean: 50}
	scopes := 0
	for i := range 20000 {
		s := k.elements(where{deep: 1 + i%7})
		l, _, e := syn.Parse(s)
		if e == api.ErrLong {
			continue
		}
		for at, n := range l {
			if n.Kind == api.NdProgram || n.Kind == api.NdBody {
				holdsModel(t, l, at)
				scopes++
			}
		}
	}
	if scopes < 40000 {
		t.Error("only", scopes)
	}
}

// Of other lists and places nothing is told, but told it is.
func TestNamesOfWhatIsNoScope(t *testing.T) {
	l := parsed(t, "var a; function f(b) { var c; { var d; } }")
	for _, i := range []int{-1, len(l), len(l) + 1, math.MaxInt, math.MinInt} {
		for _, some := range [][]api.Node{nil, {}, l, l[:0]} {
			if v, f := Vars(some, i), Funcs(some, i); len(v) != 0 || len(f) != 0 {
				t.Error(i, v, f)
			}
		}
	}
	lists(func(l []api.Node) {
		for i := -1; i <= len(l); i++ {
			Vars(l, i)
			Funcs(l, i)
		}
	})
	// Going down again from each node would not end soon; as far down as the list is long there is no room.
	defer debug.SetMaxStack(debug.SetMaxStack(1 << 24))
	for _, n := range []int{1, 2, 1 << 20, math.MaxInt} {
		for _, size := range []int{1, 2, 1 << 20} {
			for _, kind := range []int{api.NdProgram, api.NdBody, api.NdVar, api.NdDecl} {
				long := slices.Repeat([]api.Node{{Kind: kind, N: n, Size: size}}, 1<<20)
				Vars(long, 0)
				Funcs(long, 0)
				Check(long)
			}
		}
	}
}

// What is handed out is nobody else's, and what lies behind a list's length is not read.
func TestNamesAreHandedOut(t *testing.T) {
	l := parsed(t, "var a, b; function f() {} function g() {}")
	v, f := Vars(l, 0), Funcs(l, 0)
	if cap(v) > len(v) {
		v = append(v, "d")
	}
	v[0], f[0] = "c", -1
	if v, f := Vars(l, 0), Funcs(l, 0); !slices.Equal(v, []string{"a", "b"}) || !slices.Equal(f, []int{4, 6}) {
		t.Error(v, f)
	}
	l = parsed(t, "var a; var b; function f() {}")
	if v, f := Vars(l[:3], 0), Funcs(l[:3], 0); slices.Contains(v, "b") || len(f) != 0 {
		t.Error(v, f)
	}
}
