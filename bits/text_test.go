package bits

import (
	"math"
	"strconv"
	"strings"
	"testing"

	"septum/api"
)

func TestText(t *testing.T) {
	for _, b := range nones() {
		if s := Text(b); s != "NaN" {
			t.Errorf("%x: %s", b, s)
		}
	}
	for _, x := range []struct {
		b uint64
		s string
	}{
		{infinite, "Infinity"}, {minusInf, "-Infinity"},
		{0, "0"}, {minusNought, "0"}, {Of(1), "1"}, {Of(-1), "-1"}, {Of(10), "10"}, {Of(-12), "-12"}, {Of(1 << 32), "4294967296"},
		{whole53 - 1, "9007199254740991"}, {whole53, "9007199254740992"}, {whole53 + 1, "~4340000000000001"},
		{whole53 - 1 | minusNought, "-9007199254740991"}, {whole53 | minusNought, "-9007199254740992"}, {whole53 + 1 | minusNought, "~c340000000000001"},
		{half, "~3fe0000000000000"}, {f(-0.5), "~bfe0000000000000"}, {tiniest, "~0000000000000001"}, {tiniest | minusNought, "~8000000000000001"},
		{topSub, "~000fffffffffffff"}, {greatest, "~7fefffffffffffff"}, {f(1) + 0xabcdef, "~3ff0000000abcdef"}, {0x0123456789abcdef, "~0123456789abcdef"}, {0x4350000000000000, "~4350000000000000"},
	} {
		if s := Text(x.b); s != x.s {
			t.Errorf("%x: %s, not %s", x.b, s, x.s)
		}
	}
}

func TestParse(t *testing.T) {
	for _, x := range []struct {
		s string
		b uint64
	}{
		{"", 0}, {" ", 0}, {" \t\r\n\n\r\t ", 0},
		{"0", 0}, {"+0", 0}, {"-0", minusNought}, {"00", 0}, {"007", Of(7)}, {"12", Of(12)}, {" 12 ", Of(12)}, {"\t\r\n 12 \n\r\t", Of(12)}, {"+12", Of(12)}, {"-12", Of(-12)}, {" -5\n", Of(-5)}, {"1234567890", Of(1234567890)},
		{"9007199254740991", whole53 - 1}, {"9007199254740992", whole53}, {"9007199254740993", whole53}, {"9007199254740994", whole53 + 1}, {"-9007199254740993", whole53 | minusNought},
		{"Infinity", infinite}, {"+Infinity", infinite}, {"-Infinity", minusInf}, {"  Infinity\t", infinite},
		{"0x0", 0}, {"0x1F", Of(31)}, {"0X1f", Of(31)}, {"0xaBcDeF", Of(0xabcdef)}, {"0XABCDEF", Of(0xabcdef)}, {"0x0123456789", Of(0x123456789)}, {"0x0010", Of(16)}, {" 0xff ", Of(255)},
		{"0x20000000000000", whole53}, {"0x20000000000001", whole53}, {"0x20000000000003", whole53 + 2},
		{"~3fe0000000000000", half}, {"~8000000000000000", minusNought}, {"~0000000000000000", 0}, {"~0123456789abcdef", 0x0123456789abcdef}, {"~3ff0000000000000", Of(1)}, {" ~fff0000000000000 ", minusInf}, {"~0000000000000001", tiniest},
		{"~7ff8000000000001", api.NaN}, {"~7ff8000000000000", api.NaN}, {"~fff0000000000001", api.NaN}, {"~ffffffffffffffff", api.NaN}, {"NaN", api.NaN},
	} {
		if b := Parse(x.s); b != x.b {
			t.Errorf("%q: %x, not %x", x.s, b, x.b)
		}
	}
}

func TestParseOfNoNumber(t *testing.T) {
	for _, s := range []string{
		"1.5", "1.", ".5", "1e3", "1 2", "- 1", "+ 1", "+", "-", "--1", "++1", "+-1", "-+1", "1-", "1+", "a", "12a", "a12", "1_000", "1,0",
		"infinity", "INFINITY", "Inf", "Infinit", "Infinityy", "Infinity1", "1Infinity", "--Infinity", "nan",
		"0x", "0X", "0xg", "0x1g", "x1", "00x1", "+0x1", "-0x1F", "0x-1", "0x+1", "0x 1", "0x1.0", "ff", "1f", "0x~",
		"~", "~3fe000000000000", "~3fe00000000000000", "~3FE0000000000000", "~3fe000000000000A", "~3fe000000000000g", "-~3fe0000000000000", "+~3fe0000000000000", "~-3fe000000000000", "~ 3fe000000000000", "3fe0000000000000", "~~3fe0000000000000", "~Infinity",
		"\v1", "1\f", "\u00a01", "1\u00a0", "\u20281", "1\x00", "\x001", "\xff", "\u0661", "\uff11", "1\xff", "/", ":", "@", "0x@", "0xG", "0x`", "0x/", "0x:",
	} {
		if b := Parse(s); b != api.NaN {
			t.Errorf("%q: %x", s, b)
		}
	}
}

// byDigits reckons as the document says, with the numbers' own calls.
func byDigits(s string, base int) uint64 {
	sum := Of(0)
	for _, c := range s {
		d, err := strconv.ParseInt(string(c), 16, 64)
		if err != nil {
			panic(err)
		}
		sum = Add(Mul(sum, Of(base)), Of(int(d)))
	}
	return sum
}

func TestParseOfLongRuns(t *testing.T) {
	runs := []string{"123456789", "9", "90071992547409917", "10000000000000000555", "31415926535897932384626433832795028841971"}
	for _, r := range runs {
		for _, n := range []int{1, 2, 3, 7} {
			s := strings.Repeat(r, n)
			if b := Parse(s); b != byDigits(s, 10) {
				t.Errorf("%s: %x, not %x", s, b, byDigits(s, 10))
			}
			if b := Parse("-" + s); b != Neg(byDigits(s, 10)) {
				t.Errorf("-%s: %x", s, b)
			}
			if b := Parse("0x" + s + "abcdefABCDEF"); b != byDigits(s+"abcdefABCDEF", 16) {
				t.Errorf("0x%s: %x", s, b)
			}
		}
	}
	// Rounded digit by digit, this is another number than rounded once.
	s := "10000000000000000555000000000000000055"
	if once, _ := strconv.ParseFloat(s, 64); math.Float64bits(once) == byDigits(s, 10) {
		t.Error("the run does not tell the two apart")
	} else if Parse(s) != byDigits(s, 10) {
		t.Error("rounded once")
	}
	nine, long := strings.Repeat("9", 309), strings.Repeat("9", 100000)
	for _, x := range []struct {
		s string
		b uint64
	}{
		{strings.Repeat("0", 100000) + "7", Of(7)}, {"1" + strings.Repeat("0", 400), infinite}, {"-" + nine, minusInf}, {long, infinite}, {"0x" + long, infinite},
		{"0x1" + strings.Repeat("0", 255), f(0x1p1020)}, {"0x1" + strings.Repeat("0", 256), infinite}, {long + "a", api.NaN}, {strings.Repeat(" ", 100000) + "1", Of(1)},
	} {
		if b := Parse(x.s); b != x.b {
			t.Errorf("a run of %d bytes: %x, not %x", len(x.s), b, x.b)
		}
	}
}

func TestParseOfText(t *testing.T) {
	for _, b := range append(all(), some(2000)...) {
		want := b
		if none(b) {
			want = api.NaN
		}
		if b == minusNought {
			want = 0
		}
		if got := Parse(Text(b)); got != want {
			t.Fatalf("%x: %s: %x", b, Text(b), got)
		}
	}
}

func TestSmallWholesAreExact(t *testing.T) {
	l := []int{0, 1, -1, 2, 3, -7, 10, 99, 1000, -4096, 65535, 1 << 20, -(1 << 25), 1<<26 - 1, 1 << 26}
	for _, a := range l {
		for _, b := range l {
			for i, x := range [][2]uint64{{Add(Of(a), Of(b)), Of(a + b)}, {Sub(Of(a), Of(b)), Of(a - b)}, {Mul(Of(a), Of(b)), Of(a * b)}} {
				if !Equal(x[0], x[1]) {
					t.Errorf("%d of %d, %d: %s", i, a, b, Text(x[0]))
				}
				if n, ok := Whole(x[0]); !ok || n != []int{a + b, a - b, a * b}[i] {
					t.Errorf("%d of %d, %d: %d, %v", i, a, b, n, ok)
				}
			}
		}
	}
}
