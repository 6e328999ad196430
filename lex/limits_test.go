package lex

import (
	"slices"
	"strings"
	"testing"

	"septum/api"
)

func TestLongestSource(t *testing.T) {
	blanks := strings.Repeat(" ", api.MaxSource-1)
	reads(t, blanks+"a", name(api.MaxSource-1, "a"))
	reads(t, strings.Repeat(" ", api.MaxSource))
	reads(t, "/*"+blanks[4:]+"*/a", name(api.MaxSource-1, "a"))
	refuses(t, blanks+" a", 0, api.ErrLong)
	refuses(t, "#"+blanks+"a", 0, api.ErrLong)
	refuses(t, strings.Repeat(" ", api.MaxSource+1), 0, api.ErrLong)
	refuses(t, strings.Repeat("(", 1<<20), 0, api.ErrLong)
	refuses(t, strings.Repeat("\xff", api.MaxSource+1), 0, api.ErrLong)
	refuses(t, "a\xff"+strings.Repeat("a", api.MaxSource), 0, api.ErrLong)
	// Bytes count, not signs.
	refuses(t, "'"+strings.Repeat("\u00e9", api.MaxSource/2)+"'", 0, api.ErrLong)
}

func TestBytesOfNoSign(t *testing.T) {
	for _, s := range []string{"\xff", "\x80", "\xc3", "\xc0\x80", "\xe2\x82", "\xed\xa0\x80", "\xf4\x90\x80\x80", "\xf0\x9f\x98"} {
		refuses(t, s, 0, api.ErrForm)
		refuses(t, "a"+s, 1, api.ErrForm)
		refuses(t, "'"+s+"'", 1, api.ErrForm)
		refuses(t, "// "+s+"\n", 3, api.ErrForm)
		refuses(t, "/* \u00e9 "+s+" */", 6, api.ErrForm)
		// Ahead of what is no token, wherever that stands.
		refuses(t, "# 08 'b"+s, 7, api.ErrForm)
		refuses(t, strings.Repeat("{", api.MaxOpen+1)+s, api.MaxOpen+1, api.ErrForm)
	}
	refuses(t, strings.Repeat(" ", api.MaxSource-1)+"\xff", api.MaxSource-1, api.ErrForm)
}

func TestOpenBrackets(t *testing.T) {
	for _, open := range []string{"(", "[", "{"} {
		deep := strings.Repeat(open, api.MaxOpen)
		if l, at, e := Tokens(deep); len(l) != api.MaxOpen || at != 0 || e != api.OK {
			t.Errorf("%s: %d, %d, %d", open, len(l), at, int(e))
		}
		for _, more := range []string{"(", "[", "{"} {
			refuses(t, deep+more, api.MaxOpen, api.ErrDeep)
			refuses(t, deep+" a + "+more+")", api.MaxOpen+5, api.ErrDeep)
			for _, end := range []string{")", "]", "}"} {
				// Any closes one, whichever it is.
				s := deep + end + more
				if l, at, e := Tokens(s); len(l) != len(s) || at != 0 || e != api.OK {
					t.Errorf("%s %s %s: %d, %d, %d", open, end, more, len(l), at, int(e))
				}
				refuses(t, s+more, len(s), api.ErrDeep)
				// What closes nothing gives no room.
				refuses(t, strings.Repeat(end, 5)+deep+more, 5+api.MaxOpen, api.ErrDeep)
				// And what was closed does not count any more.
				s = strings.Repeat(deep+strings.Repeat(end, api.MaxOpen), 2) + deep
				if l, at, e := Tokens(s); len(l) != len(s) || at != 0 || e != api.OK {
					t.Errorf("%s %s, again: %d, %d, %d", open, end, len(l), at, int(e))
				}
				refuses(t, s+more, len(s), api.ErrDeep)
			}
		}
	}
	mixed := strings.Repeat("([{", api.MaxOpen/3)
	if l, at, e := Tokens(mixed); len(l) != api.MaxOpen || at != 0 || e != api.OK {
		t.Errorf("mixed: %d, %d, %d", len(l), at, int(e))
	}
	refuses(t, mixed+"[", api.MaxOpen, api.ErrDeep)
	// Brackets in texts and remarks are none.
	s := "'(((' \"[[[\" /* {{{ */ // (((\n"
	if l, at, e := Tokens(s + mixed + s); len(l) != api.MaxOpen+4 || at != 0 || e != api.OK {
		t.Errorf("beside texts: %d, %d, %d", len(l), at, int(e))
	}
	refuses(t, "')))'"+mixed+"')' /* ) */ {", 5+api.MaxOpen+12, api.ErrDeep)
}

// Two calls with the same source answer the same, and neither hands out what the other has.
func TestAnswersAreApart(t *testing.T) {
	s := "if (a) b = 'c' + 1;"
	one, _, _ := Tokens(s)
	two, _, _ := Tokens(s)
	if !slices.Equal(one, two) {
		t.Error("not the same")
	}
	for i := range one {
		one[i] = api.Token{}
	}
	if three, _, _ := Tokens(s); !slices.Equal(two, three) || two[0].Text != "if" {
		t.Error("shared")
	}
}
