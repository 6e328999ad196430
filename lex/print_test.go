package lex

import (
	"slices"
	"strings"
	"testing"

	"septum/api"
	"septum/bits"
)

func TestWord(t *testing.T) {
	words := strings.Fields(theWords)
	if len(words) != 45 {
		t.Fatal(len(words))
	}
	for _, w := range words {
		if !Word(w) || Name(w) {
			t.Errorf("%s is a word", w)
		}
		for _, s := range []string{w + " ", " " + w, w + "x", w[1:] + "q", strings.ToUpper(w), w + w, w + "\x00"} {
			if Word(s) {
				t.Errorf("%q is no word", s)
			}
		}
	}
	for _, s := range []string{"", " ", "a", "if else", "undefined", "NaN", "Infinity", "eval", "arguments", "async", "await", "of", "get", "set", "goto", "int", "1", "+", "\u00e9", "\xff", theWords} {
		if Word(s) {
			t.Errorf("%q is no word", s)
		}
	}
}

func TestName(t *testing.T) {
	for _, s := range []string{"a", "z", "A", "Z", "_", "$", "$1", "_0", "a9", "aZ_$09", "iff", "If", "undefined", "eval", "arguments", "of", "__proto__", strings.Repeat("a", 100000)} {
		if !Name(s) {
			t.Errorf("%q is a name", s)
		}
	}
	for _, s := range []string{"", " ", "1", "0a", "9", "a b", " a", "a ", "a.b", "a-b", "a\n", "\ta", "a\x00", "\x00", "a@", "@", "a[", "[", "a`", "`", "a{", "{", "a/", "a:", "+", "'a'", "\u00e9", "a\u00e9", "\xff", "a\xff", `a\u0061`, "a/**/", strings.Repeat("a", 100000) + "-"} {
		if Name(s) {
			t.Errorf("%q is no name", s)
		}
	}
	// Each byte, ahead and behind.
	for c := range 256 {
		s := string([]byte{byte(c)})
		letter := strings.Contains("abcdefghijklmnopqrstuvwxyzABCDEFGHIJKLMNOPQRSTUVWXYZ_$", s)
		if Name(s) != letter || Name(s+"a") != letter || Name("a"+s) != (letter || c >= '0' && c <= '9') {
			t.Errorf("%q", s)
		}
	}
}

func TestPrint(t *testing.T) {
	for _, x := range []struct {
		t api.Token
		s string
	}{
		{name(0, "a"), "a"}, {word(3, "if"), "if"}, {sign(9, ">>>="), ">>>="}, {name(0, ""), ""},
		{api.Token{Kind: api.TkName, Text: "a b\"\n", Bits: 7}, "a b\"\n"}, {api.Token{Kind: api.TkWord, Text: "\xff"}, "\xff"}, {api.Token{Kind: api.TkSign, At: -5, Text: "??"}, "??"},
		{num(0, 31), "31"}, {num(0, 0), "0"}, {num(0, 1<<53), "9007199254740992"}, {num(0, -12), "-12"}, {api.Token{Kind: api.TkNum, Text: "7", Bits: bits.Of(8)}, "8"},
		{api.Token{Kind: api.TkNum, Bits: 0x3fe0000000000000}, "~3fe0000000000000"}, {api.Token{Kind: api.TkNum, Bits: api.NaN}, "NaN"}, {api.Token{Kind: api.TkNum, Bits: 0xfff0000000000000}, "-Infinity"}, {api.Token{Kind: api.TkNum, Bits: 1 << 63}, "0"},
		{text(0, ""), `""`}, {text(0, "a"), `"a"`}, {text(0, "if (1)"), `"if (1)"`}, {api.Token{Kind: api.TkText, Text: "a", Bits: 7}, `"a"`},
		{text(0, `a"b\c'd`), `"a\"b\\c'd"`}, {text(0, `\n`), `"\\n"`}, {text(0, "\n\r\t"), `"\n\r\t"`}, {text(0, "\x00\x01\x08\x0b\x0c\x1f"), `"\u0000\u0001\u0008\u000b\u000c\u001f"`}, {text(0, "\x000"), `"\u00000"`},
		{text(0, " ~\x7f\u0080\u00e9\u20ac\u2028\ufeff\U0001f600/"), "\" ~\x7f\u0080\u00e9\u20ac\u2028\ufeff\U0001f600/\""},
		{text(0, "\xff\"\xc3\n\xe2\x82\\\x80"), "\"\xff\\\"\xc3\\n\xe2\x82\\\\\x80\""},
		{text(0, strings.Repeat("a\n", 100000)), `"` + strings.Repeat(`a\n`, 100000) + `"`},
	} {
		if s := Print(x.t); s != x.s {
			t.Errorf("Print(%v) = %q, not %q", x.t, s, x.s)
		}
	}
	for _, kind := range []int{0, -1, 6, 7, 100, -1 << 63, 1<<63 - 1} {
		if s := Print(api.Token{Kind: kind, At: 1, Text: "a", Bits: bits.Of(1)}); s != "" {
			t.Errorf("kind %d: %q", kind, s)
		}
	}
}

func TestPrintOfEachByte(t *testing.T) {
	const low = "0123456789abcdef"
	for c := range 256 {
		s := string([]byte{byte(c)})
		want := s
		switch {
		case s == `"`, s == `\`:
			want = `\` + s
		case s == "\n":
			want = `\n`
		case s == "\r":
			want = `\r`
		case s == "\t":
			want = `\t`
		case c < 0x20:
			want = `\u00` + low[c/16:c/16+1] + low[c%16:c%16+1]
		}
		if got := Print(text(0, s+s)); got != `"`+want+want+`"` {
			t.Errorf("%q: %q, not %q twice", s, got, want)
		}
	}
}

// placeless tells tokens without their places.
func placeless(l []api.Token) []api.Token {
	l = slices.Clone(l)
	for i := range l {
		l[i].At = 0
	}
	return l
}

// again holds that tokens that are printed, with blanks between, are read as they were.
func again(t *testing.T, l []api.Token) {
	t.Helper()
	var parts []string
	for _, x := range l {
		parts = append(parts, Print(x))
	}
	for _, blank := range []string{" ", "\n", "\t\r\n "} {
		s := strings.Join(parts, blank)
		if len(s) > api.MaxSource {
			continue
		}
		if got, at, e := Tokens(s); !slices.Equal(placeless(got), placeless(l)) || e != api.OK {
			t.Fatalf("%q: %v, %d, %d, not %v", s, got, at, int(e), l)
		}
	}
}

func TestWhatIsPrintedIsReadAgain(t *testing.T) {
	for _, s := range []string{
		"", "a+++b", "var x = 0x1f + 12; // more\n\tx.y['z'] >>>= -7", theWords, theSigns, `'\u00e9\n\0\'\"\\\u001f\ud7ff'`, "1.5'a'\"b\"c", "a/**/b- -c---d", "0x20000000000000 9007199254740991",
	} {
		l, _, e := Tokens(s)
		if e != api.OK {
			t.Fatal(s)
		}
		again(t, l)
	}
}

// some hands out numbers below n, the same ones each time.
func some() func(n int) int {
	x := uint64(88172645463325252)
	return func(n int) int {
		x ^= x << 13
		x ^= x >> 7
		x ^= x << 17
		return int(x >> 1 % uint64(n))
	}
}

func TestAnyTokensArePrintedAndReadAgain(t *testing.T) {
	pick := some()
	words, signs := strings.Fields(theWords), strings.Fields(theSigns)
	parts := []string{"a", "\"", "'", "\\", "\n", "\r", "\t", "\x00", "\x1f", "0", "u0041", "\x7f", "\u00e9", "\u20ac", "\U0001f600", "//", "/*", " ", "{"}
	for range 3000 {
		var l []api.Token
		for range pick(12) {
			switch pick(5) {
			case 0:
				l = append(l, name(0, []string{"a", "$", "_1", "iff", "x0"}[pick(5)]))
			case 1:
				l = append(l, word(0, words[pick(len(words))]))
			case 2:
				l = append(l, num(0, pick(1<<(1+pick(53)))))
			case 3:
				s := ""
				for range pick(8) {
					s += parts[pick(len(parts))]
				}
				l = append(l, text(0, s))
			case 4:
				l = append(l, sign(0, signs[pick(len(signs))]))
			}
		}
		again(t, l)
	}
}
