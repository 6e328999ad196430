package lex

import (
	"slices"
	"strconv"
	"strings"
	"testing"

	"septum/api"
	"septum/bits"
	"septum/utf"
)

const theWords = "break case catch class const continue debugger default delete do else enum export extends false finally for function if implements import in instanceof interface let new null package private protected public return static super switch this throw true try typeof var void while with yield"

const theSigns = "{ } ( ) [ ] . ; , ? : ~ < > <= >= === !== + - * / % ++ -- << >> >>> & | ^ ! && || = += -= *= /= %= &= |= ^= <<= >>= >>>="

func name(at int, s string) api.Token { return api.Token{Kind: api.TkName, At: at, Text: s} }
func word(at int, s string) api.Token { return api.Token{Kind: api.TkWord, At: at, Text: s} }
func num(at, n int) api.Token         { return api.Token{Kind: api.TkNum, At: at, Bits: bits.Of(n)} }
func text(at int, s string) api.Token { return api.Token{Kind: api.TkText, At: at, Text: s} }
func sign(at int, s string) api.Token { return api.Token{Kind: api.TkSign, At: at, Text: s} }

// reads holds that s is read as just these tokens.
func reads(t *testing.T, s string, want ...api.Token) {
	t.Helper()
	l, at, e := Tokens(s)
	if !slices.Equal(l, want) || at != 0 || e != api.OK {
		t.Errorf("Tokens(%q) = %v, %d, %d, not %v", s, l, at, int(e), want)
	}
}

// refuses holds that s is refused at that place, by that error.
func refuses(t *testing.T, s string, wantAt int, want api.Errno) {
	t.Helper()
	if l, at, e := Tokens(s); l != nil || at != wantAt || e != want {
		t.Errorf("Tokens(%q) = %v, %d, %d, not %d, %d", s, l, at, int(e), wantAt, int(want))
	}
}

func TestOrdinarySources(t *testing.T) {
	reads(t, "")
	reads(t, "a+++b", name(0, "a"), sign(1, "++"), sign(3, "+"), name(4, "b"))
	reads(t, `'\u00e9'`, text(0, "\xc3\xa9"))
	reads(t, "0x1F", num(0, 31))
	reads(t, "var x = 0x1f + 12; // more\n\tx.y['z'] >>>= -7",
		word(0, "var"), name(4, "x"), sign(6, "="), num(8, 31), sign(13, "+"), num(15, 12), sign(17, ";"),
		name(28, "x"), sign(29, "."), name(30, "y"), sign(31, "["), text(32, "z"), sign(35, "]"), sign(37, ">>>="), sign(42, "-"), num(43, 7))
	reads(t, "function f(a, $b) { return typeof a === \"text\" ? !1 : a1_; }",
		word(0, "function"), name(9, "f"), sign(10, "("), name(11, "a"), sign(12, ","), name(14, "$b"), sign(16, ")"), sign(18, "{"),
		word(20, "return"), word(27, "typeof"), name(34, "a"), sign(36, "==="), text(40, "text"), sign(47, "?"), sign(49, "!"), num(50, 1), sign(52, ":"), name(54, "a1_"), sign(57, ";"), sign(59, "}"))
	reads(t, "1.5'a'\"b\"c", num(0, 1), sign(1, "."), num(2, 5), text(3, "a"), text(6, "b"), name(9, "c"))
}

func TestNamesAndWordsInSources(t *testing.T) {
	for _, w := range strings.Fields(theWords) {
		reads(t, w, word(0, w))
		reads(t, w+"s "+w+";", name(0, w+"s"), word(len(w)+2, w), sign(2*len(w)+2, ";"))
		reads(t, "$"+w, name(0, "$"+w))
		reads(t, strings.ToUpper(w), name(0, strings.ToUpper(w)))
	}
	for _, n := range []string{"a", "z", "A", "Z", "_", "$", "a0", "z9", "$_", "_$9", "undefined", "NaN", "eval", "arguments", "async", "await", "of", "get", "constructor", "__proto__", "If"} {
		reads(t, n, name(0, n))
	}
	long := strings.Repeat("aZ_$09", api.MaxSource/6)
	reads(t, long, name(0, long))
	refuses(t, "ab\u00e9", 2, api.ErrToken)
	refuses(t, `a\u0062`, 1, api.ErrToken)
}

func TestNumbersInSources(t *testing.T) {
	for s, n := range map[string]int{
		"0": 0, "1": 1, "9": 9, "10": 10, "1234567890": 1234567890, "9007199254740991": 1<<53 - 1, "9007199254740992": 1 << 53,
		"0x0": 0, "0X0": 0, "0x1F": 31, "0X1f": 31, "0xabcdef": 0xabcdef, "0XABCDEF": 0xabcdef, "0x0123456789": 0x123456789, "0x007": 7,
		"0x1fffffffffffff": 1<<53 - 1, "0x20000000000000": 1 << 53, "0x" + strings.Repeat("0", 4093) + "7": 7,
	} {
		reads(t, s, num(0, n))
		if len(s) < 100 {
			reads(t, s+"."+s, num(0, n), sign(len(s), "."), num(len(s)+1, n))
			reads(t, "-"+s+"'a'", sign(0, "-"), num(1, n), text(len(s)+1, "a"))
		}
	}
	for _, s := range []string{
		"00", "01", "08", "09", "007", "0_", "0$", "0a", "0x", "0X", "0xg", "0xG", "0x_", "0x1g", "0x1G", "0x1_", "0x1$", "0x1x", "0xx1", "0b1", "0o7",
		"1x", "1a", "1Z", "1_", "1$", "1_000", "1e3", "12in", "12abc", "0x.", "0x 1", "1n",
		"9007199254740993", "9007199254740994", "9007199254740999", "90071992547409920", "10000000000000000", "18446744073709551617", "0x20000000000001", "0x100000000000000000", "0x1000000000000000f",
		"9" + strings.Repeat("0", 4000), "0xf" + strings.Repeat("0", 4000), strings.Repeat("9", 4000) + "x",
	} {
		refuses(t, s, 0, api.ErrToken)
		refuses(t, "a "+s+" b", 2, api.ErrToken)
	}
	reads(t, "1.e3", num(0, 1), sign(1, "."), name(2, "e3"))
	reads(t, "0/1", num(0, 0), sign(1, "/"), num(2, 1))
	refuses(t, "1\u00e9", 1, api.ErrToken)
	refuses(t, "1#", 1, api.ErrToken)
}

func TestTextsInSources(t *testing.T) {
	for s, meant := range map[string]string{
		`''`: "", `""`: "", `'a'`: "a", `"a"`: "a", `'"'`: `"`, `"'"`: "'", `'\''`: "'", `'\"'`: `"`, `"\""`: `"`, `"\'"`: "'", `'\\'`: `\`,
		`'\n\r\t\0'`: "\n\r\t\x00", `"\n\r\t\0"`: "\n\r\t\x00", `'\01'`: "\x001", `'\\n'`: `\n`, `'\\\n'`: "\\\n", `'\\\''`: `\'`,
		`'\u0041'`: "A", `'\u00410'`: "A0", `'\u0000'`: "\x00", `'\u000a\u000D'`: "\n\r", `'\u0027\u005c\u0022'`: `'\"`, `'\u20aC'`: "\u20ac", `'\uFFFF\uffff'`: "\uffff\uffff", `'\ud7ff\ue000'`: "\ud7ff\ue000",
		"' !#[]~\x7f'": " !#[]~\x7f", "'\u00e9\u20ac\U0001f600\u2028\ufeff\U0010ffff'": "\u00e9\u20ac\U0001f600\u2028\ufeff\U0010ffff",
		"'// a'": "// a", "'/* a */'": "/* a */", `"{ ( ["`: "{ ( [", "'if'": "if", "' a '": " a ",
	} {
		reads(t, s, text(0, meant))
		reads(t, "a="+s+s, name(0, "a"), sign(1, "="), text(2, meant), text(2+len(s), meant))
	}
	long := strings.Repeat("\u20ac", (api.MaxSource-2)/3)
	reads(t, "'"+long+"'", text(0, long))
	for _, s := range []string{
		"'", `"`, "'a", `"a`, `'a"`, `"a'`, `'\'`, `"\"`, `'\`, `'\u`, `'\u004`, `'\u0041`,
		`'\q'`, `'\b'`, `'\f'`, `'\v'`, `'\x41'`, `'\1'`, `'\9'`, `'\N'`, `'\U0041'`, `'\ '`, `'\a'`, `'\/'`, "'\\\u00e9'", "'\\\n'", "'\\\r\n'", "'\\\t'", "'\\\x00'",
		`'\u'`, `'\u41'`, `'\u004'`, `'\u004g'`, `'\u00G0'`, `'\u{41}'`, `'\u 041'`, `'\u-041'`, `'\u+041'`, `'\u_041'`, "'\\u00\u00e9'", `'\u00"0'`, `'\u00/0'`, `'\u00:0'`, `'\u00@0'`, "'\\u00`0'",
	} {
		refuses(t, s, 0, api.ErrToken)
		refuses(t, "a = "+s, 4, api.ErrToken)
	}
}

func TestTextsThatAreEndedTooSoon(t *testing.T) {
	refuses(t, `'''`, 2, api.ErrToken)
	refuses(t, `'a' '`, 4, api.ErrToken)
	refuses(t, `'\\''`, 4, api.ErrToken)
	refuses(t, `"a\"" "`, 6, api.ErrToken)
}

func TestEachByteInATextAndBehindItsEscape(t *testing.T) {
	escapes := map[byte]string{'\\': `\`, '\'': "'", '"': `"`, 'n': "\n", 'r': "\r", 't': "\t", '0': "\x00"}
	for c := range 0x80 {
		s := string(rune(c))
		for _, quote := range []string{"'", `"`} {
			if c >= ' ' && s != quote && s != `\` {
				reads(t, quote+s+quote, text(0, s))
			} else if s != quote {
				refuses(t, quote+s+quote, 0, api.ErrToken)
			}
			if meant, ok := escapes[byte(c)]; ok {
				reads(t, quote+`\`+s+quote, text(0, meant))
			} else {
				refuses(t, quote+`\`+s+quote, 0, api.ErrToken)
			}
		}
	}
}

func TestEachCodeOfASign(t *testing.T) {
	for n := range 0x10000 {
		code := strconv.FormatInt(0x10000+int64(n), 16)[1:]
		meant, e := utf.Put(n)
		for _, s := range []string{`'\u` + code + `'`, `"\u` + strings.ToUpper(code) + `"`} {
			if e != api.OK {
				refuses(t, s, 0, api.ErrToken)
			} else {
				reads(t, s, text(0, meant))
			}
		}
	}
	refuses(t, `'\ud83d\ude00'`, 0, api.ErrToken)
}

func TestSignsInSources(t *testing.T) {
	signs := strings.Fields(theSigns)
	for _, a := range signs {
		reads(t, a, sign(0, a))
		reads(t, "x"+a+"1", name(0, "x"), sign(1, a), num(1+len(a), 1))
		for _, b := range signs {
			reads(t, a+" "+b, sign(0, a), sign(len(a)+1, b))
		}
	}
	reads(t, ">>>>=", sign(0, ">>>"), sign(3, ">="))
	reads(t, ">>>>>>>=", sign(0, ">>>"), sign(3, ">>>"), sign(6, ">="))
	reads(t, "====", sign(0, "==="), sign(3, "="))
	reads(t, "==", sign(0, "="), sign(1, "="))
	reads(t, "!=", sign(0, "!"), sign(1, "="))
	reads(t, "!==-", sign(0, "!=="), sign(3, "-"))
	reads(t, "<<<=", sign(0, "<<"), sign(2, "<="))
	reads(t, "&&=||=", sign(0, "&&"), sign(2, "="), sign(3, "||"), sign(5, "="))
	reads(t, "...", sign(0, "."), sign(1, "."), sign(2, "."))
	reads(t, "=>**", sign(0, "="), sign(1, ">"), sign(2, "*"), sign(3, "*"))
	reads(t, "-->~~", sign(0, "--"), sign(2, ">"), sign(3, "~"), sign(4, "~"))
	for _, s := range []string{"#", "@", "`", "\\", "\x00", "\x01", "\v", "\f", "\x1f", "\x7f", "\u00a0", "\u0085", "\u00e9", "\u2028", "\ufeff", "\U0001f600"} {
		refuses(t, s, 0, api.ErrToken)
		refuses(t, "a +"+s, 3, api.ErrToken)
	}
}

func TestBetweenTokens(t *testing.T) {
	for _, s := range []string{
		" ", "\t", "\r", "\n", " \t\r\n \n", "//", "// a", "//\n", "// a 'b \\q # { \x00\n", "///**/", "// /* a\n", "//\r\n", "/**/", "/***/", "/* a */", "/* ' # \\q { ( \n\x00\n */", "/*/*/", "/* // */", "/*//*/", "/*\n//*/", "/* * / **/", "/**//**/", "// a\n// b\n/* c */\n// d",
		"/* \u00e9\u20ac */", "// \u2028 \u0085", "//*\n", "//*/\n",
	} {
		reads(t, s)
		reads(t, s+"\na", name(len(s)+1, "a"))
		reads(t, "a"+s, name(0, "a"))
	}
	reads(t, "a//b\nc", name(0, "a"), name(5, "c"))
	reads(t, "a// b\rc\n$", name(0, "a"), name(8, "$"))
	reads(t, "a/**/b", name(0, "a"), name(5, "b"))
	reads(t, "a+/**/+b", name(0, "a"), sign(1, "+"), sign(6, "+"), name(7, "b"))
	reads(t, "a/ /b", name(0, "a"), sign(1, "/"), sign(3, "/"), name(4, "b"))
	reads(t, "a/=/b", name(0, "a"), sign(1, "/="), sign(3, "/"), name(4, "b"))
	reads(t, "a */ b", name(0, "a"), sign(2, "*"), sign(3, "/"), name(5, "b"))
	reads(t, "/* a */ */", sign(8, "*"), sign(9, "/"))
	reads(t, "1/**/2", num(0, 1), num(5, 2))
	reads(t, "i/**/f 'a'/**/'b'", name(0, "i"), name(5, "f"), text(7, "a"), text(14, "b"))
	reads(t, "/", sign(0, "/"))
	for _, s := range []string{"/*", "/* a", "/*/", "/* *", "/* * /", "/*\n", "/*/*", "/* //\n", "/* '*"} {
		refuses(t, s, 0, api.ErrToken)
		refuses(t, "ab /**/ "+s, 8, api.ErrToken)
	}
}

func TestOfSeveralFaultsTheFirst(t *testing.T) {
	refuses(t, "a # 08 'b", 2, api.ErrToken)
	refuses(t, "a 08 # 'b", 2, api.ErrToken)
	refuses(t, "/* a */ 'b", 8, api.ErrToken)
	refuses(t, "a 'b' 'c # /*", 6, api.ErrToken)
	open := strings.Repeat("(", api.MaxOpen)
	refuses(t, "#"+open+"(", 0, api.ErrToken)
	refuses(t, open+"#(", api.MaxOpen, api.ErrToken)
	refuses(t, open+"(#", api.MaxOpen, api.ErrDeep)
}
