package syn

import (
	"testing"

	"septum/api"
)

func FuzzParse(f *testing.F) {
	f.Add("function f(a, b) { for (var i = 0; i < 3; i++) if (a[i]) continue; else return new b.c(1)(2); }")
	f.Add("try { x = {a: [1, 'b'], if: !this}; } catch (e) { throw e, null; } finally { do ; while (++a.b ? c : d); }")
	f.Add("++1 = \xff")
	f.Fuzz(func(t *testing.T, s string) {
		l, at, e := Parse(s)
		if e != api.OK {
			if l != nil || at < 0 || at > len(s) {
				t.Errorf("Parse(%q) = %v, %d, %d", s, l, at, int(e))
			}
			return
		}
		if _, size := shape(l); at != 0 || size != len(l) || Height(l) > api.MaxDepth {
			t.Errorf("Parse(%q) = %v, %d, height %d", s, l, at, Height(l))
		}
		// What a program is told of hangs on nothing ahead of it.
		if both, at, e := Parse(";" + s); len(s) < api.MaxSource && (len(both) != len(l)+1 || at != 0 || e != api.OK) {
			t.Errorf("Parse(%q) = %v, %d, %d", ";"+s, both, at, int(e))
		}
	})
}
