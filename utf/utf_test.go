package utf

import (
	"math"
	"strings"
	"testing"
	"unicode/utf8"

	"septum/api"
)

const beyond = 0x10ffff + 1 // the first number behind all signs

// isSign says what the chapter says.
func isSign(n int) bool {
	return n >= 0 && n <= 0x10ffff && (n < 0xd800 || n > 0xdfff)
}

// edges are signs on both sides of each place at which a size changes, or a sign is none.
func edges() []int {
	return []int{0, 1, '\n', 'a', 0x7e, 0x7f, 0x80, 0x81, 0xbf, 0xc0, 0xe9, 0xff, 0x100, 0x7fe, 0x7ff, 0x800, 0x801, 0xfff, 0x1000, 0xcfff, 0xd7ff, 0xe000, 0xfeff, 0xfffd, 0xfffe, 0xffff, 0x10000, 0x10001, 0x1f600, 0x3ffff, 0x40000, 0xfffff, 0x100000, 0x10fffe, 0x10ffff}
}

// ill are bytes of which no sign's begin at the first one.
func ill() []string {
	return []string{
		"\x80", "\xbf", "\x80\x80", "\xbf\xbf\xbf\xbf", // no first byte
		"\xc3", "\xdf", "\xe2", "\xe2\x82", "\xf0", "\xf0\x9f", "\xf0\x9f\x98", "\xf4\x8f\xbf", // the end is too near
		"\xc3a", "\xc3\x00", "\xc3\x7f", "\xc3\xc0", "\xc3\xc3\xa9", "\xc3\xff", "\xe2a\x82", "\xe2\x82a", "\xe2\x82\xc2", "\xe2\xe2\x82", "\xf0a\x98\x80", "\xf0\x9fa\x80", "\xf0\x9f\x98a", "\xf0\x9f\x98\xf0", "\xe2\x82\n", // another byte behind it
		"\xc0\x80", "\xc0\xaf", "\xc1\x81", "\xc1\xbf", "\xe0\x80\x80", "\xe0\x80\xaf", "\xe0\x9f\xbf", "\xf0\x80\x80\x80", "\xf0\x80\x80\xaf", "\xf0\x8f\xbf\xbf", // more bytes than it has to have
		"\xed\xa0\x80", "\xed\xa0\xbd\xed\xb8\x80", "\xed\xaf\xbf", "\xed\xb0\x80", "\xed\xbf\xbf", // halves
		"\xf4\x90\x80\x80", "\xf4\xbf\xbf\xbf", "\xf5\x80\x80\x80", "\xf7\xbf\xbf\xbf", // above all signs
		"\xf8\x88\x80\x80\x80", "\xfb\xbf\xbf\xbf\xbf", "\xfc\x84\x80\x80\x80\x80", "\xfd\xbf\xbf\xbf\xbf\xbf", "\xfe", "\xff", "\xfe\xff", "\xff\xbf\xbf\xbf\xbf\xbf\xbf", // first bytes of more than four
	}
}

// told is what the library reads there, in Next's words.
func told(s string, at int) (sign, size int) {
	r, n := utf8.DecodeRuneInString(s[at:])
	if r == utf8.RuneError && n == 1 {
		return -1, 1
	}
	return int(r), n
}

func sameNext(t *testing.T, s string, at int) {
	t.Helper()
	wantSign, wantSize := told(s, at)
	if sign, size := Next(s, at); sign != wantSign || size != wantSize {
		t.Fatalf("Next(%q, %d) = %x, %d, not %x, %d", s, at, sign, size, wantSign, wantSize)
	}
}

func TestPutAsTheChapterSays(t *testing.T) {
	for n := -1; n <= beyond; n++ {
		got, e := Put(n)
		if !isSign(n) {
			if got != "" || e != api.ErrArg {
				t.Fatalf("Put(%x) = %q, %d", n, got, int(e))
			}
			continue
		}
		var want []byte
		low := func(bits int) byte { return byte(0x80 + n/bits%64) }
		switch {
		case n < 0x80:
			want = []byte{byte(n)}
		case n < 0x800:
			want = []byte{byte(0xc0 + n/64), low(1)}
		case n < 0x10000:
			want = []byte{byte(0xe0 + n/4096), low(64), low(1)}
		default:
			want = []byte{byte(0xf0 + n/262144), low(4096), low(64), low(1)}
		}
		if got != string(want) || e != api.OK {
			t.Fatalf("Put(%x) = %q, %d, not %q", n, got, int(e), want)
		}
	}
}

func TestPutOfNoSign(t *testing.T) {
	for _, n := range []int{-1, -2, -0x80, math.MinInt, math.MinInt + 0x41, 0xd800, 0xd801, 0xdbff, 0xdc00, 0xdffe, 0xdfff, beyond, beyond + 1, 0x1fffff, 0x200000, math.MaxInt32, 1<<32 + 0x41, math.MaxInt} {
		if s, e := Put(n); s != "" || e != api.ErrArg {
			t.Errorf("Put(%x) = %q, %d", n, s, int(e))
		}
	}
}

func TestNextOfExamples(t *testing.T) {
	for _, x := range []struct {
		s              string
		at, sign, size int
	}{
		{"\xc3\xa9", 0, 0xe9, 2}, {"\xc3\xa9", 1, -1, 1}, {"\xc3\xa9", 2, -1, 0},
		{"abc", 0, 'a', 1}, {"abc", 2, 'c', 1}, {"a\x00b", 1, 0, 1}, {"\x7f", 0, 0x7f, 1},
		{"a\u20acb", 1, 0x20ac, 3}, {"a\u20acb", 2, -1, 1}, {"a\u20acb", 3, -1, 1}, {"a\u20acb", 4, 'b', 1},
		{"\U0001f600", 0, 0x1f600, 4}, {"\U0001f600", 1, -1, 1}, {"\U0001f600", 3, -1, 1},
		{"\ufffd", 0, 0xfffd, 3}, {"\xef\xbb\xbf", 0, 0xfeff, 3},
		{"\xc3a", 0, -1, 1}, {"\xc3a", 1, 'a', 1}, {"\xf0\x9f\xc3\xa9", 2, 0xe9, 2},
	} {
		if sign, size := Next(x.s, x.at); sign != x.sign || size != x.size {
			t.Errorf("Next(%q, %d) = %x, %d", x.s, x.at, sign, size)
		}
	}
}

func TestNextOfNoPlace(t *testing.T) {
	for _, s := range []string{"", "a", "\xc3\xa9", "\xff", "abc\xf0\x9f"} {
		for _, at := range []int{-1, -2, -len(s), -len(s) - 1, math.MinInt, len(s), len(s) + 1, len(s) + 1000, math.MaxInt} {
			if sign, size := Next(s, at); sign != -1 || size != 0 {
				t.Errorf("Next(%q, %d) = %x, %d", s, at, sign, size)
			}
		}
	}
}

func TestNextWhereNoSignStands(t *testing.T) {
	for _, s := range ill() {
		for _, ahead := range []string{"", "a", "\u00e9", "\xf0"} {
			if sign, size := Next(ahead+s, len(ahead)); sign != -1 || size != 1 {
				t.Errorf("Next(%q, %d) = %x, %d", ahead+s, len(ahead), sign, size)
			}
		}
	}
}

// Each first byte, with all pairs behind it, and all edges of a third and fourth.
func TestNextOfAllBytes(t *testing.T) {
	var b [2]byte
	for first := range 256 {
		b[0] = byte(first)
		sameNext(t, string(b[:1]), 0)
		for second := range 256 {
			b[1] = byte(second)
			sameNext(t, string(b[:]), 0)
			sameNext(t, string(b[:]), 1)
		}
	}
	rest := []string{"\x00", "a", "\x7f", "\x80", "\x8f", "\x90", "\x9f", "\xa0", "\xbf", "\xc0", "\xe0", "\xf0", "\xff"}
	for first := 0xc0; first < 256; first++ {
		for second := 0x7f; second <= 0xc0; second++ {
			for _, third := range rest {
				ahead := string([]byte{byte(first), byte(second)}) + third
				sameNext(t, ahead, 0)
				for _, fourth := range rest {
					sameNext(t, ahead+fourth, 0)
					sameNext(t, ahead+fourth+"\x80", 0)
				}
			}
		}
	}
}

func TestCheck(t *testing.T) {
	right := "a\n\u00e9\u20ac\U0001f600\x00"
	for _, s := range []string{"", "a", "\x00", "abc", right, strings.Repeat(right, 1000), "\ufffd", "\ufeffa"} {
		if at, e := Check(s); at != 0 || e != api.OK {
			t.Errorf("Check(%q) = %d, %d", s, at, int(e))
		}
	}
	for _, s := range ill() {
		for _, ahead := range []string{"", "a", "\n", "\u00e9", "\u20ac", "\U0001f600", right} {
			for _, behind := range []string{"", "a", "\xff"} {
				if at, e := Check(ahead + s + behind); at != len(ahead) || e != api.ErrForm {
					t.Errorf("Check(%q) = %d, %d, not %d", ahead+s+behind, at, int(e), len(ahead))
				}
			}
		}
	}
	if at, e := Check("a\xff"); at != 1 || e != api.ErrForm {
		t.Errorf("%d, %d", at, int(e))
	}
}

func TestCount(t *testing.T) {
	for _, x := range []struct {
		s string
		n int
	}{
		{"", 0}, {"a", 1}, {"abc", 3}, {"\n\n", 2}, {"\x00", 1}, {"\u00e9", 1}, {"a\u00e9\u20ac\U0001f600", 4},
		{"\xff", 1}, {"a\xff", 2}, {"\xff\xfe", 2}, {"\x80\u00e9", 2}, {"\xc3", 1}, {"\xc3a", 2}, {"\xe2\x82", 2}, {"\xf0\x9f\x98", 3}, {"\xf0\x9f\x98a", 4}, {"\xf0\x9f\u00e9", 3},
		{"\xc0\x80", 2}, {"\xe0\x80\x80", 3}, {"\xed\xa0\x80", 3}, {"\xf4\x90\x80\x80", 4}, {"\xf8\x88\x80\x80\x80", 5},
		{strings.Repeat("\u20ac\xff", 5000), 10000},
	} {
		if n := Count(x.s); n != x.n {
			t.Errorf("Count(%q) = %d, not %d", x.s, n, x.n)
		}
	}
	for _, s := range ill() {
		if n, want := Count("a"+s+"\u00e9"), utf8.RuneCountInString("a"+s+"\u00e9"); n != want {
			t.Errorf("Count of %q = %d, not %d", s, n, want)
		}
	}
}

func TestLine(t *testing.T) {
	for _, x := range []struct {
		s                string
		at, line, column int
	}{
		{"", 0, 1, 1}, {"", -1, 1, 1}, {"", 1, 1, 1}, {"", math.MaxInt, 1, 1}, {"", math.MinInt, 1, 1},
		{"a\nb", 0, 1, 1}, {"a\nb", 1, 1, 2}, {"a\nb", 2, 2, 1}, {"a\nb", 3, 2, 2},
		{"a\nb", -1, 1, 1}, {"a\nb", math.MinInt, 1, 1}, {"a\nb", 4, 2, 2}, {"a\nb", math.MaxInt, 2, 2},
		{"\n", 0, 1, 1}, {"\n", 1, 2, 1}, {"\n\n\n", 2, 3, 1}, {"\n\n\n", 3, 4, 1}, {"\n\n\n", 9, 4, 1},
		{"abc", 2, 1, 3}, {"abc", 3, 1, 4},
		{"a\r\nb", 1, 1, 2}, {"a\r\nb", 2, 1, 3}, {"a\r\nb", 3, 2, 1}, {"a\rb", 2, 1, 3}, {"a\u2028b", 4, 1, 3}, {"a\vb\fc\u0085d", 7, 1, 7},
		{"a\n\u00e9b", 2, 2, 1}, {"a\n\u00e9b", 4, 2, 2}, {"a\n\u00e9b", 5, 2, 3}, {"\u00e9\n\u20acb", 6, 2, 2},
		// Within a sign: the Next that goes beyond the place counts, once.
		{"a\n\u00e9b", 3, 2, 2}, {"\u20acb", 1, 1, 2}, {"\u20acb", 2, 1, 2}, {"\u20acb", 3, 1, 2}, {"\u20acb", 4, 1, 3},
		{"a\U0001f600b", 1, 1, 2}, {"a\U0001f600b", 2, 1, 3}, {"a\U0001f600b", 3, 1, 3}, {"a\U0001f600b", 4, 1, 3}, {"a\U0001f600b", 5, 1, 3}, {"a\U0001f600b", 6, 1, 4},
		// Where no sign stands each byte is a Next.
		{"\xff\xffa", 1, 1, 2}, {"\xff\xffa", 2, 1, 3}, {"\xff\xffa", 3, 1, 4}, {"\xe2\x82\na", 2, 1, 3}, {"\xe2\x82\na", 3, 2, 1}, {"\xe2\x82\na", 4, 2, 2}, {"\xf0\x9f", 9, 1, 3},
	} {
		if line, column := Line(x.s, x.at); line != x.line || column != x.column {
			t.Errorf("Line(%q, %d) = %d, %d, not %d, %d", x.s, x.at, line, column, x.line, x.column)
		}
	}
}

// byNexts reckons a place's line and column as the chapter says, byte by byte and Next by Next.
func byNexts(s string, at int) (line, column int) {
	line, column = 1, 1
	begin := 0
	for i := range at {
		if s[i] == '\n' {
			line++
			begin = i + 1
		}
	}
	for begin < at {
		_, size := Next(s, begin)
		begin += size
		column++
	}
	return line, column
}

func TestLineAtAllPlaces(t *testing.T) {
	s := "var a;\n\u00e9\u20ac\n\n\U0001f600\xff\xf0\x9f\r\n" + strings.Join(ill(), "x\n\u20ac") + "\n"
	for at := range len(s) + 1 {
		wantLine, wantColumn := byNexts(s, at)
		if line, column := Line(s, at); line != wantLine || column != wantColumn {
			t.Errorf("Line at %d = %d, %d, not %d, %d", at, line, column, wantLine, wantColumn)
		}
	}
}

func TestLineOfALongText(t *testing.T) {
	s := strings.Repeat("\u20ac", 4000) + strings.Repeat("\n", 4000) + strings.Repeat("\xff", 4000)
	if line, column := Line(s, len(s)); line != 4001 || column != 4001 {
		t.Errorf("%d, %d", line, column)
	}
	if line, column := Line(s, 12000); line != 1 || column != 4001 {
		t.Errorf("%d, %d", line, column)
	}
}

func TestWhatIsPutIsRead(t *testing.T) {
	for n := range beyond {
		s, e := Put(n)
		if e != api.OK {
			continue
		}
		if sign, size := Next(s, 0); sign != n || size != len(s) {
			t.Fatalf("Next of Put(%x) = %x, %d", n, sign, size)
		}
		if sign, size := Next("\xe2"+s+"\x80", 1); sign != n || size != len(s) {
			t.Fatalf("Next of Put(%x) among others = %x, %d", n, sign, size)
		}
	}
}

func TestTextsOfSignsAreRight(t *testing.T) {
	l := edges()
	var all strings.Builder
	for i, a := range l {
		x, _ := Put(a)
		all.WriteString(x)
		if n := Count(all.String()); n != i+1 {
			t.Errorf("%d signs are %d", i+1, n)
		}
		for _, b := range l {
			y, _ := Put(b)
			if at, e := Check(x + y); at != 0 || e != api.OK || Count(x+y) != 2 {
				t.Fatalf("%x, %x: %d, %d, %d signs", a, b, at, int(e), Count(x+y))
			}
			if sign, size := Next(x+y, len(x)); sign != b || size != len(y) {
				t.Fatalf("%x behind %x: %x, %d", b, a, sign, size)
			}
		}
	}
	if at, e := Check(all.String()); at != 0 || e != api.OK {
		t.Errorf("%d, %d", at, int(e))
	}
}
