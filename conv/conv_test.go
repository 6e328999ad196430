package conv

import (
	"math"
	"strings"
	"testing"

	"septum/api"
	"septum/bits"
)

const (
	minusNought = 1 << 63
	infinite    = 0x7ff0000000000000
	minusInf    = 0xfff0000000000000
	half        = 0x3fe0000000000000
	tiniest     = 1
	greatest    = 0x7fefffffffffffff
)

// nones are bits of no number but those that it has where it may be.
func nones() []uint64 {
	return []uint64{api.NaN - 1, api.NaN + 1, infinite + 1, infinite + 9, 0x7fffffffffffffff, minusInf + 1, api.NaN | minusNought, 0xffffffffffffffff}
}

// numbers are numbers of any kind that may be.
func numbers() []uint64 {
	return []uint64{0, minusNought, tiniest, tiniest | minusNought, half, half | minusNought, greatest, bits.Of(1), bits.Of(-1), bits.Of(10), bits.Of(-12), bits.Of(1 << 53), bits.Of(1<<53) + 1, infinite, minusInf, api.NaN}
}

// texts are texts of any bytes that may be.
func texts() []string {
	return []string{
		"", "0", "-0", "1", "12", " 12\n", "0x10", "0X1f", "-0x10", "1.5", "~3fe0000000000000", "~7ff0000000000001", "Infinity", "-Infinity", "NaN", "a", "b", "aa", "A",
		"undefined", "null", "true", "false", "[object]", "\"", "\\", "a\"b\\c\n\r\t\x00\x1f\x7f", "\u00e9\u2028\U0001f600", "\xff", "\xc3", "\x00", " ", "\t\r\n ", strings.Repeat("1", api.MaxText),
	}
}

// allowed are values that may be, no two of them the same.
func allowed() []api.Value {
	l := []api.Value{{}, {Kind: api.VNull}, {Kind: api.VBool}, {Kind: api.VBool, Bits: 1}}
	for _, b := range numbers() {
		l = append(l, api.Value{Kind: api.VNum, Bits: b})
	}
	for _, s := range texts() {
		l = append(l, api.Value{Kind: api.VText, Text: s})
	}
	for _, o := range []int{1, 2, 59, 60, 1 << 40, math.MaxInt} {
		l = append(l, api.Value{Kind: api.VObj, Obj: o})
	}
	return l
}

// beyond are values of which the field that they have may not be, no two of them the same but by what no number is.
func beyond() []api.Value {
	var l []api.Value
	for _, b := range []uint64{2, 3, 7, minusNought, minusNought + 1, bits.Of(1), api.NaN, math.MaxUint64} {
		l = append(l, api.Value{Kind: api.VBool, Bits: b})
	}
	for _, b := range nones() {
		l = append(l, api.Value{Kind: api.VNum, Bits: b})
	}
	for _, s := range []string{strings.Repeat("a", api.MaxText+1), strings.Repeat("1", api.MaxText) + " ", strings.Repeat("\xff\n", 100000)} {
		l = append(l, api.Value{Kind: api.VText, Text: s})
	}
	for _, o := range []int{0, -1, -59, math.MinInt} {
		l = append(l, api.Value{Kind: api.VObj, Obj: o})
	}
	return l
}

// kindless are values whose Kind is none.
func kindless() []api.Value {
	var l []api.Value
	for _, kind := range []int{-1, 6, 7, 9, 256, 1 << 32, 1<<32 + api.VText, math.MaxInt, math.MinInt} {
		l = append(l, api.Value{Kind: kind})
	}
	return l
}

// soiled tells values that are v but for fields that its Kind does not have.
func soiled(v api.Value) []api.Value {
	var l []api.Value
	hasBits, hasText, hasObj := v.Kind == api.VBool || v.Kind == api.VNum, v.Kind == api.VText, v.Kind == api.VObj
	for _, x := range []api.Value{{Bits: 1}, {Bits: minusNought}, {Bits: api.NaN}, {Text: "0"}, {Text: "a"}, {Obj: 1}, {Obj: -1}, {Bits: bits.Of(7), Text: "b", Obj: 7}} {
		x.Kind = v.Kind
		if hasBits {
			x.Bits = v.Bits
		}
		if hasText {
			x.Text = v.Text
		}
		if hasObj {
			x.Obj = v.Obj
		}
		if x != v {
			l = append(l, x)
		}
	}
	return l
}

func TestMakers(t *testing.T) {
	for i, x := range []struct{ got, want api.Value }{
		{Undef(), api.Value{}},
		{Bool(false), api.Value{Kind: 2}}, {Bool(true), api.Value{Kind: 2, Bits: 1}},
		{Num(0), api.Value{Kind: 3}}, {Num(minusNought), api.Value{Kind: 3, Bits: minusNought}}, {Num(half), api.Value{Kind: 3, Bits: half}}, {Num(tiniest), api.Value{Kind: 3, Bits: 1}}, {Num(infinite), api.Value{Kind: 3, Bits: infinite}}, {Num(minusInf), api.Value{Kind: 3, Bits: minusInf}}, {Num(api.NaN), api.Value{Kind: 3, Bits: 0x7ff8000000000001}},
		{Int(0), api.Value{Kind: 3}}, {Int(1), api.Value{Kind: 3, Bits: 0x3ff0000000000000}}, {Int(-3), api.Value{Kind: 3, Bits: bits.Of(-3)}}, {Int(1 << 53), api.Value{Kind: 3, Bits: 0x4340000000000000}}, {Int(1<<53 + 1), api.Value{Kind: 3, Bits: 0x4340000000000000}}, {Int(math.MinInt), api.Value{Kind: 3, Bits: 0xc3e0000000000000}}, {Int(math.MaxInt), api.Value{Kind: 3, Bits: 0x43e0000000000000}},
		{Str(""), api.Value{Kind: 4}}, {Str("a\xff\x00\n"), api.Value{Kind: 4, Text: "a\xff\x00\n"}}, {Str(strings.Repeat("a", 5000)), api.Value{Kind: 4, Text: strings.Repeat("a", 5000)}},
		{Obj(1), api.Value{Kind: 5, Obj: 1}}, {Obj(59), api.Value{Kind: 5, Obj: 59}}, {Obj(0), api.Value{Kind: 5}}, {Obj(-1), api.Value{Kind: 5, Obj: -1}}, {Obj(math.MinInt), api.Value{Kind: 5, Obj: math.MinInt}}, {Obj(math.MaxInt), api.Value{Kind: 5, Obj: math.MaxInt}},
	} {
		if x.got != x.want {
			t.Errorf("%d: %v, not %v", i, x.got, x.want)
		}
	}
	for _, b := range nones() {
		if v := Num(b); v != (api.Value{Kind: api.VNum, Bits: api.NaN}) {
			t.Errorf("Num(%x) = %v", b, v)
		}
	}
}

func TestMay(t *testing.T) {
	for _, v := range allowed() {
		if !May(v) {
			t.Errorf("%v may be", v)
		}
		for _, x := range soiled(v) {
			if May(x) {
				t.Errorf("%v may not be", x)
			}
		}
	}
	for _, v := range append(beyond(), kindless()...) {
		for _, x := range append(soiled(v), v) {
			if May(x) {
				t.Errorf("%v may not be", x)
			}
		}
	}
}

func TestMayOfWhatIsMade(t *testing.T) {
	may := []api.Value{Undef(), Bool(true), Bool(false), Str(strings.Repeat("\xff", api.MaxText)), Obj(1), Obj(math.MaxInt)}
	for _, b := range append(numbers(), nones()...) {
		may = append(may, Num(b))
	}
	for _, n := range []int{0, 1, -1, 1 << 53, 1<<53 + 1, math.MinInt, math.MaxInt} {
		may = append(may, Int(n))
	}
	for _, v := range may {
		if !May(v) {
			t.Errorf("%v may be", v)
		}
	}
	for _, v := range []api.Value{Str(strings.Repeat("a", api.MaxText+1)), Obj(0), Obj(-1), Obj(math.MinInt)} {
		if May(v) {
			t.Errorf("%v may not be", v)
		}
	}
}
