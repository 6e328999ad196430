package early

import (
	"slices"
	"strings"
	"testing"

	"septum/api"
	"septum/syn"
)

// sources holds what Source tells of a source that is none.
func sources(t *testing.T, s string, wantAt int, want api.Errno) {
	t.Helper()
	if l, at, e := Source(s); len(l) != 0 || at != wantAt || e != want {
		t.Errorf("Source(%.80q) = %v, %d, %d, not %d, %d", s, l, at, int(e), wantAt, int(want))
	}
}

// What has no tree is refused as syn does, whatever is said ahead of it.
func TestSourcesWithoutTree(t *testing.T) {
	sources(t, "a b", 2, api.ErrSyntax)
	sources(t, "a", 1, api.ErrSyntax)
	sources(t, "eval; a b", 8, api.ErrSyntax)
	sources(t, "1 = 2;", 2, api.ErrSyntax)
	sources(t, "eval; break; 08", 13, api.ErrToken)
	sources(t, "eval; '", 6, api.ErrToken)
	sources(t, "eval; \xff", 6, api.ErrForm)
	sources(t, "eval;"+strings.Repeat(" ", api.MaxSource-4), 0, api.ErrLong)
	sources(t, "eval;"+strings.Repeat("(", api.MaxOpen+1), api.MaxOpen+5, api.ErrDeep)
	sources(t, "eval;"+strings.Repeat("!", api.MaxDepth-2)+"a;", 0, api.ErrDeep)
	sources(t, "eval;"+strings.Repeat("!", api.MaxDepth-3)+"a;", 0, api.ErrEarly)
}

func TestSourcesThatMayNotBe(t *testing.T) {
	for _, s := range []string{"eval;", ";;; a = arguments;", "function f(a, a) {}", "a = {b: 1, b: 1};", "delete a;", "return;", "break;", "; ; continue;"} {
		sources(t, s, 0, api.ErrEarly)
		sources(t, "a; // eval\n"+s, 0, api.ErrEarly)
	}
}

func TestSourcesThatMayBe(t *testing.T) {
	for _, s := range []string{
		"", " ", "// eval\n/* return; */", ";", "1 + 1;", "var a; function f(b) { return b; } while (f(a)) break;", "'eval';" + strings.Repeat(" ", api.MaxSource-7), strings.Repeat("!", api.MaxDepth-3) + "a;",
	} {
		takes(t, s)
	}
}

func TestTreesAreHandedOut(t *testing.T) {
	const s = "var a = 1; function f() {}"
	l, _, _ := Source(s)
	clear(l)
	want, _, _ := syn.Parse(s)
	if l, at, e := Source(s); !slices.Equal(l, want) || at != 0 || e != api.OK {
		t.Error(l, at, int(e))
	}
}

func FuzzSource(f *testing.F) {
	f.Add("function f(a, b) { for (var i = 0; i < 3; i++) if (a[i]) continue; else return new b.c(1)(2); }")
	f.Add("try { x = {a: [1, 'b'], a: !this}; } catch (e) { throw delete e.a, null; } finally { do break; while (delete a); }")
	f.Add("while (function eval(a, a) { break; }) { return arguments; }")
	f.Fuzz(func(t *testing.T, s string) {
		l, at, e := syn.Parse(s)
		if e != api.OK {
			sources(t, s, at, e)
			return
		}
		if at, _ := newModel(l).check(); at < 0 {
			takes(t, s)
		} else {
			refuses(t, s, at)
		}
		for i, n := range l {
			if n.Kind == api.NdProgram || n.Kind == api.NdBody {
				holdsModel(t, l, i)
			}
		}
	})
}
