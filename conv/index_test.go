package conv

import (
	"strconv"
	"strings"
	"testing"
)

// indexOf tells by the chapter's words whether s is an index: whether a number's digits are s.
func indexOf(s string) (int, bool) {
	n, err := strconv.ParseUint(s, 10, 32)
	if err != nil || n == 1<<32-1 || strconv.FormatUint(n, 10) != s {
		return 0, false
	}
	return int(n), true
}

func checkIndex(t *testing.T, s string) {
	t.Helper()
	want, wantOk := indexOf(s)
	if n, ok := Index(s); n != want || ok != wantOk {
		t.Errorf("Index(%q) = %d, %v, not %d, %v", s, n, ok, want, wantOk)
	}
}

func TestIndex(t *testing.T) {
	for s, want := range map[string]int{
		"0": 0, "1": 1, "9": 9, "10": 10, "12": 12, "100": 100, "1023": 1023, "2147483647": 1<<31 - 1, "2147483648": 1 << 31, "999999999": 999999999, "1000000000": 1000000000, "4294967293": 1<<32 - 3, "4294967294": 1<<32 - 2,
	} {
		if n, ok := Index(s); n != want || !ok {
			t.Errorf("Index(%q) = %d, %v", s, n, ok)
		}
	}
	for _, s := range []string{
		"", "00", "01", "007", "0000000000", "00000000001", "-0", "-1", "+0", "+1", "-", "+", " ", " 1", "1 ", "1\n", "\t1", "1\x00", "\x001", "0x10", "0x", "1.0", "1.", ".1", "1e3", "1_0", "1,0", "a", "1a", "a1", "12a4", "NaN", "Infinity", "length", "~3ff0000000000000",
		"4294967295", "4294967296", "4294967300", "5000000000", "9999999999", "10000000000", "42949672940", "18446744073709551616", "18446744073709551617", "/", ":", "1/", "1:", "\xff", "1\xff", "\u0661", "\uff11",
		strings.Repeat("0", 100000), "1" + strings.Repeat("0", 100000), strings.Repeat("9", 100000),
	} {
		if n, ok := Index(s); n != 0 || ok {
			t.Errorf("Index(%q) = %d, %v", s, n, ok)
		}
	}
}

func TestIndexOfWholes(t *testing.T) {
	for n := range 20000 {
		checkIndex(t, strconv.Itoa(n))
	}
	for ten := 10; ten <= 1e18; ten *= 10 {
		for near := -12; near <= 12; near++ {
			checkIndex(t, strconv.Itoa(ten+near))
			checkIndex(t, strconv.Itoa(-ten+near))
			checkIndex(t, "0"+strconv.Itoa(ten+near))
		}
	}
	for power := range 62 {
		for near := -12; near <= 12; near++ {
			checkIndex(t, strconv.Itoa(1<<power+near))
		}
	}
}

func TestIndexOfEachByte(t *testing.T) {
	for c := range 256 {
		b := string([]byte{byte(c)})
		for _, s := range []string{b, b + "1", "1" + b, "1" + b + "1", b + "0", "0" + b, "123456789" + b, b + "123456789", "429496729" + b} {
			checkIndex(t, s)
		}
	}
}

// All texts of up to five of a few signs.
func TestIndexOfShortTexts(t *testing.T) {
	var longer func(s string)
	longer = func(s string) {
		checkIndex(t, s)
		if len(s) == 5 {
			return
		}
		for _, sign := range []string{"0", "1", "9", "-", "+", " ", "x", "."} {
			longer(s + sign)
		}
	}
	longer("")
}

func FuzzIndex(f *testing.F) {
	for _, s := range []string{"0", "01", "4294967294", "4294967295", "-1", "1e3"} {
		f.Add(s)
	}
	f.Fuzz(func(t *testing.T, s string) { checkIndex(t, s) })
}
