package syn

import (
	"slices"
	"strings"
	"testing"

	"septum/api"
)

// nest is sources in which parts are nested: ahead and behind stand about middle as often as one likes,
// and come to so many levels each time; others is how high the tree is besides.
type nest struct {
	ahead, middle, behind, last string
	levels, others              int
}

func (n nest) source(times int) string {
	return strings.Repeat(n.ahead, times) + n.middle + strings.Repeat(n.behind, times) + n.last
}

var theNests = []nest{
	{"!", "a", "", ";", 1, 3},
	{"- ", "1", "", ";", 1, 3},
	{"typeof ", "a", "", ";", 1, 3},
	{"new ", "a", "", ";", 1, 3},
	{"a = ", "b", "", ";", 1, 3},
	{"a ? b : ", "c", "", ";", 1, 3},
	{"a ? ", "b", " : c", ";", 1, 3},
	{"", "a", ".b", ";", 1, 3},
	{"", "a", "[b]", ";", 1, 3},
	{"", "a", "()", ";", 1, 3},
	{"", "a", " + b", ";", 1, 3},
	{"", "a", " || b", ";", 1, 3},
	{"", "a", ", b", ";", 1, 3},
	{"[", "", "]", ";", 1, 2},
	{"a(", "b", ")", ";", 1, 3},
	{"a[", "b", "]", ";", 1, 3},
	{"a + (", "b", ")", ";", 1, 3},
	{"a = {b: ", "c", "}", ";", 3, 3},
	{"a = function () { return ", "b", "; }", ";", 4, 3},
	{"{", "", "}", "", 1, 1},
	{"if (a) ", ";", "", "", 1, 2},
	{"if (a) ; else ", ";", "", "", 1, 2},
	{"while (a) ", ";", "", "", 1, 2},
	{"do ", ";", " while (a);", "", 1, 2},
	{"for (;;) ", "a;", "", "", 1, 3},
	{"function f() {", "", "}", "", 2, 1},
	{"function f() {", "function f(a) {}", "}", "", 2, 3},
	{"try {", "", "} finally {}", "", 2, 2},
	{"try {} finally {", "", "}", "", 3, 1},
	{"try {} catch (a) {", "", "}", "", 3, 1},
}

func TestMaxDepth(t *testing.T) {
	for _, x := range theNests {
		for times := 1; times*x.levels <= 2*api.MaxDepth; times++ {
			s, height := x.source(times), times*x.levels+x.others
			if height > api.MaxDepth {
				refuses(t, s, 0, api.ErrDeep)
				continue
			}
			if l, at, e := Parse(s); Height(l) != height || at != 0 || e != api.OK {
				t.Errorf("%s: %d, %d, %d, not %d", s, Height(l), at, int(e), height)
			}
		}
	}
}

// As deep as a source has room for; and what is no program is no deep one.
func TestDeepestSources(t *testing.T) {
	for _, x := range theNests {
		times := (api.MaxSource - len(x.middle+x.last)) / len(x.ahead+x.behind)
		if strings.ContainsAny(x.ahead, "([{") {
			// As many as may be open.
			times = min(times, api.MaxOpen-2)
		}
		if times*x.levels+x.others <= api.MaxDepth {
			t.Errorf("%s: only %d", x.source(times), times*x.levels+x.others)
		}
		s := x.source(times)
		refuses(t, s, 0, api.ErrDeep)
		refuses(t, s[:len(s)-1]+")", len(s)-1, api.ErrSyntax)
		refuses(t, ")"+s[1:], 0, api.ErrSyntax)
	}
	refuses(t, strings.Repeat("!", api.MaxSource-2)+"a", api.MaxSource-1, api.ErrSyntax)
	refuses(t, strings.Repeat("!", api.MaxSource-2)+"a;", 0, api.ErrDeep)
	refuses(t, strings.Repeat("!", api.MaxSource), api.MaxSource, api.ErrSyntax)
	// The deepest of several counts, wherever it stands.
	deep := strings.Repeat("!", api.MaxDepth-2) + "a;"
	refuses(t, deep+"b; c;", 0, api.ErrDeep)
	refuses(t, "b; c;"+deep, 0, api.ErrDeep)
	refuses(t, "b;"+deep+"c;", 0, api.ErrDeep)
	refuses(t, "b;"+deep+"c d;", len(deep)+4, api.ErrSyntax)
}

// Brackets are no level.
func TestBracketsInDeepSources(t *testing.T) {
	open, end := strings.Repeat("(", 200), strings.Repeat(")", 200)
	nots := strings.Repeat("!", api.MaxDepth-3)
	element(t, open+nots+"a"+end+";", "Expr("+strings.Repeat("Unary:!(", len(nots))+"Id:a"+strings.Repeat(")", len(nots))+")")
	element(t, nots+open+"a"+end+";", "Expr("+strings.Repeat("Unary:!(", len(nots))+"Id:a"+strings.Repeat(")", len(nots))+")")
	refuses(t, "!"+nots+open+"a"+end+";", 0, api.ErrDeep)
}

func TestHeight(t *testing.T) {
	if h := Height(nil); h != 0 {
		t.Error(h)
	}
	if h := Height([]api.Node{}); h != 0 {
		t.Error(h)
	}
	for s, want := range map[string]int{
		"": 1, ";": 2, "a;": 3, "a; b;": 3, ";;;;": 2, "a.b = 1 + 2;": 5, "1 + 2; a.b.c.d; 3;": 6, "1; a.b.c.d;": 6, "a.b.c.d; 1;": 6,
		"f(1, [2, [3]], 4);": 6, "function f() {}": 3, "function f(a, b) { a; }": 5, "if (a.b.c) ;": 5, "if (a) b.c; else ;": 5, "{ { {} } ; } { }": 4, "for (;;) for (;;) a;": 5, "var a, b = 1, c;": 4,
	} {
		l, _, e := Parse(s)
		if h := Height(l); e != api.OK || h != want {
			t.Errorf("%q: %d, not %d", s, h, want)
		}
	}
	// What stands behind the length is not read.
	l, _, _ := Parse("; a;")
	if h := Height(l[:0]); h != 0 {
		t.Error(h)
	}
	if h := Height(l[1:2]); h != 1 {
		t.Error(h)
	}
}

func TestHeightOfHighTrees(t *testing.T) {
	const high = 200000
	l := make([]api.Node, high)
	for i := range l {
		l[i] = api.Node{Kind: api.NdUnary, N: 1, Size: high - i}
	}
	l[high-1].N = 0
	if h := Height(l); h != high {
		t.Error(h)
	}
	for i := range l {
		l[i] = api.Node{Kind: api.NdEmpty, Size: 1}
	}
	l[0] = api.Node{Kind: api.NdProgram, N: high - 1, Size: high}
	if h := Height(l); h != 2 {
		t.Error(h)
	}
	if k := Kids(l, 0); len(k) != high-1 || k[0] != 1 || k[high-2] != high-1 {
		t.Error(len(k))
	}
}

func TestKids(t *testing.T) {
	l, _, e := Parse("function f(a, b) { return a + b; } for (;;) { f(1, -2, 3); }")
	// 0 Program; 1 Named, 2 Param, 3 Param, 4 Body, 5 Return, 6 Binary, 7 Id, 8 Id; 9 For, 10 Empty, 11 Empty, 12 Empty, 13 Block, 14 Expr, 15 Call, 16 Id, 17 Num, 18 Unary, 19 Num, 20 Num
	want := map[int][]int{0: {1, 9}, 1: {2, 3, 4}, 4: {5}, 5: {6}, 6: {7, 8}, 9: {10, 11, 12, 13}, 13: {14}, 14: {15}, 15: {16, 17, 18, 20}, 18: {19}}
	if e != api.OK || len(l) != 21 {
		t.Fatal(l, int(e))
	}
	for i := range l {
		if k := Kids(l, i); !slices.Equal(k, want[i]) {
			t.Errorf("%d: %v, not %v", i, k, want[i])
		}
	}
	for _, i := range []int{-1, -2, 21, 22, 1 << 40, -1 << 63, 1<<63 - 1} {
		if k := Kids(l, i); k != nil {
			t.Errorf("%d: %v", i, k)
		}
	}
	for _, i := range []int{-1, 0, 1} {
		if k := Kids(nil, i); k != nil {
			t.Errorf("%d: %v", i, k)
		}
	}
	before := slices.Clone(l)
	Kids(l, 0)
	Height(l)
	if !slices.Equal(l, before) {
		t.Error("changed")
	}
}

// Of lists that are no trees nothing is promised but an end.
func TestListsThatAreNoTrees(t *testing.T) {
	numbers := []int{0, 1, 2, 3, -1, 1 << 40, -1 << 63, 1<<63 - 1}
	pick := some()
	for range 3000 {
		l := make([]api.Node, 1+pick(12))
		for i := range l {
			l[i] = api.Node{Kind: pick(60) - 9, N: numbers[pick(len(numbers))], Size: numbers[pick(len(numbers))]}
		}
		Height(l)
		for i := -1; i <= len(l); i++ {
			if k := Kids(l, i); len(k) > 0 && (k[0] <= i || k[len(k)-1] >= len(l) || !slices.IsSorted(k)) {
				t.Errorf("%v, %d: %v", l, i, k)
			}
		}
	}
	// Long ones, whose nodes claim the same kids again and again.
	for _, n := range numbers {
		for _, size := range numbers {
			l := make([]api.Node, 100000)
			for i := range l {
				l[i] = api.Node{N: n, Size: size}
			}
			Height(l)
			Kids(l, 0)
		}
	}
}

// some hands out numbers below n, the same ones each time.
func some() func(n int) int {
	x := uint64(88172645463325252)
	return func(n int) int {
		x ^= x << 13
		x ^= x >> 7
		x ^= x << 17
		return int(x >> 1 % uint64(n))
	}
}
