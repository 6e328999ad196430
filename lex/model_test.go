package lex

import (
	"math/big"
	"regexp"
	"slices"
	"strings"
	"testing"

	"septum/api"
	"septum/bits"
)

// model reads a source as the chapter's sentences say, by patterns.
type model struct {
	blank, name, number, text *regexp.Regexp
	signs                     []string
}

func newModel() model {
	m := model{
		blank:  regexp.MustCompile(`^(?:[ \t\r\n]|//[^\n]*|/\*(?s:.*?)\*/)*`),
		name:   regexp.MustCompile(`^[A-Za-z_$][A-Za-z0-9_$]*`),
		number: regexp.MustCompile(`^(?:0[xX][0-9a-fA-F]+|[1-9][0-9]*|0)`),
		text:   regexp.MustCompile(`^(?:'(?:[^\x00-\x1f'\\]|\\[\\'"nrt0]|\\u[0-9a-fA-F]{4})*'|"(?:[^\x00-\x1f"\\]|\\[\\'"nrt0]|\\u[0-9a-fA-F]{4})*")`),
		signs:  strings.Fields(theSigns),
	}
	slices.SortStableFunc(m.signs, func(a, b string) int { return len(b) - len(a) })
	return m
}

// next tells the token at the beginning of s, and its size; 0, if none begins there.
func (m model) next(s string) (api.Token, int) {
	if strings.HasPrefix(s, "/*") {
		return api.Token{}, 0
	}
	if w := m.name.FindString(s); w != "" {
		if slices.Contains(strings.Fields(theWords), w) {
			return word(0, w), len(w)
		}
		return name(0, w), len(w)
	}
	if d := m.number.FindString(s); d != "" {
		n, _ := new(big.Int).SetString(d, 0)
		behind := s[len(d):]
		if n.Cmp(big.NewInt(1<<53)) > 0 || behind != "" && (m.name.MatchString(behind) || behind[0] >= '0' && behind[0] <= '9') {
			return api.Token{}, 0
		}
		return api.Token{Kind: api.TkNum, Bits: bits.Of(int(n.Int64()))}, len(d)
	}
	if q := m.text.FindString(s); q != "" {
		// No code of a sign is long enough in these sources.
		meant := strings.NewReplacer(`\\`, `\`, `\'`, "'", `\"`, `"`, `\n`, "\n", `\r`, "\r", `\t`, "\t", `\0`, "\x00").Replace(q[1 : len(q)-1])
		return text(0, meant), len(q)
	}
	for _, x := range m.signs {
		if strings.HasPrefix(s, x) {
			return sign(0, x), len(x)
		}
	}
	return api.Token{}, 0
}

func (m model) tokens(s string) (l []api.Token, at int, e api.Errno) {
	for at = len(m.blank.FindString(s)); at < len(s); at += len(m.blank.FindString(s[at:])) {
		t, size := m.next(s[at:])
		if size == 0 {
			return nil, at, api.ErrToken
		}
		t.At = at
		l = append(l, t)
		at += size
	}
	return l, 0, api.OK
}

func (m model) holds(t *testing.T, s string) {
	l, at, e := Tokens(s)
	wantL, wantAt, want := m.tokens(s)
	if !slices.Equal(l, wantL) || at != wantAt || e != want {
		t.Fatalf("Tokens(%q) = %v, %d, %d, not %v, %d, %d", s, l, at, int(e), wantL, wantAt, int(want))
	}
}

// Each source of at most four of these signs.
func TestAllShortSources(t *testing.T) {
	m := newModel()
	parts := strings.Split("a x 0 1 / * = + < > ! & ' \" \\ n \n . #", " ")
	parts = append(parts, " ")
	short := []string{""}
	for range 4 {
		var longer []string
		for _, s := range short {
			for _, p := range parts {
				longer = append(longer, s+p)
				m.holds(t, s+p)
			}
		}
		short = longer
	}
}

func TestManySources(t *testing.T) {
	m, pick := newModel(), some()
	parts := append(strings.Fields(theSigns), "a", "f", "x", "0", "1", "9", "0x", "90071992547409", "0x2000000000000", "if", "in", "$", "_", " ", "\n", "\t", "\r", "//", "/*", "*/", "'", "\"", "'", "\"", "\\", "\\\\", "\\n", "\\0", "\\q", "#", "\u00e9", "\x00")
	for range 60000 {
		s := ""
		for range pick(9) {
			s += parts[pick(len(parts))]
		}
		m.holds(t, s)
	}
}

func FuzzTokens(f *testing.F) {
	f.Add("if (a1 >>>= 0x1F) { return 'x\\u00e9\\n'; } // end\n/* more */ $")
	f.Add("\xff'\\u")
	f.Fuzz(func(t *testing.T, s string) {
		l, at, e := Tokens(s)
		if e != api.OK && (l != nil || at < 0 || at > len(s)) || e == api.OK && at != 0 {
			t.Errorf("Tokens(%q) = %v, %d, %d", s, l, at, int(e))
		}
		if e == api.OK {
			again(t, l)
		}
	})
}
