package conv

import (
	"math"
	"strings"
	"testing"

	"septum/api"
	"septum/bits"
)

// becomes is what a value is to become.
type becomes struct {
	truth      bool
	number     uint64
	text       string
	e          api.Errno
	kind, show string
}

// holds that v becomes that, and whatever is v but for fields that its Kind does not have.
func (want becomes) holds(t *testing.T, v api.Value) {
	t.Helper()
	for _, x := range append(soiled(v), v) {
		n, en := Number(x)
		s, es := Text(x)
		if got := (becomes{Truth(x), n, s, es, Type(x), Show(x)}); got != want || en != want.e {
			t.Errorf("%v: %v, %d, not %v", x, got, int(en), want)
		}
	}
}

func TestOfUndefinedNullTruthsAndObjects(t *testing.T) {
	undefined := becomes{false, api.NaN, "undefined", api.OK, "undefined", "undefined"}
	undefined.holds(t, Undef())
	for _, v := range kindless() {
		undefined.holds(t, v)
	}
	becomes{false, 0, "null", api.OK, "object", "null"}.holds(t, api.Value{Kind: api.VNull})
	becomes{false, 0, "false", api.OK, "boolean", "false"}.holds(t, Bool(false))
	for _, b := range []uint64{1, 2, 7, minusNought, api.NaN, math.MaxUint64} {
		becomes{true, bits.Of(1), "true", api.OK, "boolean", "true"}.holds(t, api.Value{Kind: api.VBool, Bits: b})
	}
	for _, o := range []int{1, 59, math.MaxInt, 0, -1, math.MinInt} {
		becomes{true, 0, "", api.ErrType, "object", "[object]"}.holds(t, Obj(o))
	}
}

func TestOfNumbers(t *testing.T) {
	for _, x := range []struct {
		b     uint64
		truth bool
		text  string
	}{
		{0, false, "0"}, {minusNought, false, "0"}, {api.NaN, false, "NaN"},
		{bits.Of(1), true, "1"}, {bits.Of(-3), true, "-3"}, {bits.Of(1 << 53), true, "9007199254740992"}, {bits.Of(1<<53) + 1, true, "~4340000000000001"},
		{half, true, "~3fe0000000000000"}, {half | minusNought, true, "~bfe0000000000000"}, {tiniest, true, "~0000000000000001"}, {tiniest | minusNought, true, "~8000000000000001"}, {greatest, true, "~7fefffffffffffff"},
		{infinite, true, "Infinity"}, {minusInf, true, "-Infinity"},
	} {
		becomes{x.truth, x.b, x.text, api.OK, "number", x.text}.holds(t, api.Value{Kind: api.VNum, Bits: x.b})
	}
	// Their own bits may not be, but they are no number.
	for _, b := range nones() {
		becomes{false, b, "NaN", api.OK, "number", "NaN"}.holds(t, api.Value{Kind: api.VNum, Bits: b})
		becomes{false, api.NaN, "NaN", api.OK, "number", "NaN"}.holds(t, Num(b))
	}
}

func TestOfTexts(t *testing.T) {
	for _, x := range []struct {
		s      string
		number uint64
		show   string
	}{
		{" ", 0, `" "`}, {"\t\r\n", 0, `"\t\r\n"`}, {"0", 0, `"0"`}, {"-0", minusNought, `"-0"`}, {"false", api.NaN, `"false"`}, {"null", api.NaN, `"null"`}, {"undefined", api.NaN, `"undefined"`}, {"true", api.NaN, `"true"`},
		{"12", bits.Of(12), `"12"`}, {" 12\n", bits.Of(12), `" 12\n"`}, {"-12", bits.Of(-12), `"-12"`}, {"0x10", bits.Of(16), `"0x10"`}, {"0X1f", bits.Of(31), `"0X1f"`}, {"-0x10", api.NaN, `"-0x10"`}, {"010", bits.Of(10), `"010"`},
		{"1.5", api.NaN, `"1.5"`}, {"a", api.NaN, `"a"`}, {"NaN", api.NaN, `"NaN"`}, {"Infinity", infinite, `"Infinity"`}, {"-Infinity", minusInf, `"-Infinity"`}, {"~3fe0000000000000", half, `"~3fe0000000000000"`}, {"~7ff0000000000001", api.NaN, `"~7ff0000000000001"`},
		{"[object]", api.NaN, `"[object]"`}, {`a"b\c`, api.NaN, `"a\"b\\c"`}, {"\x00\x1f\x7f", api.NaN, "\"\\u0000\\u001f\x7f\""}, {"\u00e9\u2028\U0001f600", api.NaN, "\"\u00e9\u2028\U0001f600\""}, {"\xff\xc3", api.NaN, "\"\xff\xc3\""},
		{strings.Repeat("9", api.MaxText), infinite, `"` + strings.Repeat("9", api.MaxText) + `"`}, {strings.Repeat("\x01", api.MaxText+1), api.NaN, `"` + strings.Repeat(`\u0001`, api.MaxText+1) + `"`}, {strings.Repeat(" ", 100000) + "7", bits.Of(7), `"` + strings.Repeat(" ", 100000) + `7"`},
	} {
		becomes{true, x.number, x.s, api.OK, "string", x.show}.holds(t, Str(x.s))
	}
	becomes{false, 0, "", api.OK, "string", `""`}.holds(t, Str(""))
}

// What has a text is read as a number as that text is.
func TestNumberOfText(t *testing.T) {
	for _, v := range append(allowed(), beyond()...) {
		s, e := Text(v)
		if e != api.OK || v.Kind != api.VNum && v.Kind != api.VText {
			continue
		}
		n, _ := Number(v)
		again, e := Number(Str(s))
		if e != api.OK || !bits.Same(again, n) && !bits.Equal(again, n) {
			t.Errorf("%v: %x, but its text %q: %x, %d", v, n, s, again, int(e))
		}
	}
	for _, v := range []api.Value{Undef(), {Kind: api.VNull}, Bool(false), Bool(true)} {
		s, _ := Text(v)
		if n, e := Number(Str(s)); n != api.NaN || e != api.OK {
			t.Errorf("%q: %x, %d", s, n, int(e))
		}
	}
}
