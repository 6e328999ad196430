package show

import (
	"slices"
	"testing"

	"septum/api"
	"septum/syn"
)

func FuzzPrint(f *testing.F) {
	f.Add("function f(a, b) { for (var i = 0; i < 3; i++) if (a[i]) continue; else return new b.c(1)(2); }")
	f.Add("try { x = {a: [1, 'b'], if: !this}; } catch (e) { throw e, null; } finally { do ; while (++a.b ? c : d); }")
	f.Add("if (a) while (b) if (c) ; else if (d) for (;;) ; else '\\u0000\\n';")
	f.Fuzz(func(t *testing.T, s string) {
		l, _, e := syn.Parse(s)
		if e != api.OK {
			return
		}
		if at, e := Check(l); at != 0 || e != api.OK {
			t.Errorf("Check(%q) = %d, %d", s, at, int(e))
		}
		out, e := Print(l)
		if e != api.OK {
			t.Errorf("Print(%q) = %q, %d", s, out, int(e))
		}
		back, at, e := syn.Parse(out)
		if len(out) <= api.MaxSource && (!slices.Equal(back, l) || at != 0 || e != api.OK) {
			t.Errorf("Print(%q) = %q: %v, %d, %d", s, out, back, at, int(e))
		}
	})
}
