package conv

import (
	"testing"

	"septum/api"
	"septum/bits"
)

// kindOf tells a value's kind, undefined of one that is none.
func kindOf(v api.Value) int {
	if v.Kind < api.VUndef || v.Kind > api.VObj {
		return api.VUndef
	}
	return v.Kind
}

// fieldsAlike tells by the chapter's words whether two values are the same, numbers as it is said of them.
func fieldsAlike(a, b api.Value, numbers func(a, b uint64) bool) bool {
	if kindOf(a) != kindOf(b) {
		return false
	}
	switch kindOf(a) {
	case api.VBool:
		return a.Bits == b.Bits
	case api.VNum:
		return numbers(a.Bits, b.Bits)
	case api.VText:
		return a.Text == b.Text
	case api.VObj:
		return a.Obj == b.Obj
	}
	return true
}

func TestStrictAndSame(t *testing.T) {
	null := api.Value{Kind: api.VNull}
	for _, x := range []struct {
		a, b         api.Value
		strict, same bool
	}{
		{Undef(), Undef(), true, true}, {null, null, true, true}, {Undef(), null, false, false},
		{Bool(true), Bool(true), true, true}, {Bool(false), Bool(false), true, true}, {Bool(true), Bool(false), false, false},
		{Int(1), Int(1), true, true}, {Int(1), Int(-1), false, false}, {Num(half), Num(half), true, true}, {Num(half), Num(half + 1), false, false}, {Num(infinite), Num(infinite), true, true}, {Num(infinite), Num(minusInf), false, false},
		{Num(api.NaN), Num(api.NaN), false, true}, {Num(api.NaN), Int(0), false, false}, {Num(0), Num(minusNought), true, false}, {Num(minusNought), Num(minusNought), true, true}, {Num(tiniest), Num(0), false, false},
		{Str("a"), Str("a"), true, true}, {Str("a"), Str("b"), false, false}, {Str("a"), Str("A"), false, false}, {Str(""), Str(""), true, true}, {Str("a"), Str("a\x00"), false, false}, {Str("1"), Str("01"), false, false}, {Str("NaN"), Str("NaN"), true, true}, {Str("\u00e9"), Str("\u0065\u0301"), false, false},
		{Obj(1), Obj(1), true, true}, {Obj(1), Obj(2), false, false}, {Obj(0), Obj(0), true, true}, {Obj(-1), Obj(1), false, false},
		{Int(1), Str("1"), false, false}, {Int(1), Bool(true), false, false}, {Int(0), Bool(false), false, false}, {Num(1), Bool(true), false, false}, {Num(0), null, false, false}, {Str(""), Bool(false), false, false}, {Str("undefined"), Undef(), false, false}, {Str(""), Undef(), false, false}, {Obj(1), Int(1), false, false}, {Obj(0), null, false, false},
		{api.Value{Kind: api.VBool, Bits: 2}, Bool(true), false, false}, {api.Value{Kind: api.VBool, Bits: 2}, api.Value{Kind: api.VBool, Bits: 2}, true, true},
		{api.Value{Kind: api.VNum, Bits: api.NaN + 1}, Num(api.NaN), false, true}, {api.Value{Kind: api.VNum, Bits: api.NaN + 1}, api.Value{Kind: api.VNum, Bits: api.NaN + 1}, false, true},
		{api.Value{Kind: 9}, Undef(), true, true}, {api.Value{Kind: 9}, api.Value{Kind: -1}, true, true}, {api.Value{Kind: 6}, null, false, false}, {api.Value{Kind: 6, Text: "a"}, Str("a"), false, false},
	} {
		if Strict(x.a, x.b) != x.strict || Strict(x.b, x.a) != x.strict {
			t.Errorf("Strict of %v, %v is not %v", x.a, x.b, x.strict)
		}
		if Same(x.a, x.b) != x.same || Same(x.b, x.a) != x.same {
			t.Errorf("Same of %v, %v is not %v", x.a, x.b, x.same)
		}
	}
}

// Each value against each other one, and against what is it but for fields that its Kind does not have.
func TestStrictAndSameOfAll(t *testing.T) {
	var all []api.Value
	for _, v := range append(append(allowed(), beyond()...), kindless()...) {
		all = append(append(all, v), soiled(v)...)
	}
	for _, a := range all {
		if !Same(a, a) {
			t.Errorf("%v is not the same as itself", a)
		}
		for _, b := range all {
			if want := fieldsAlike(a, b, bits.Equal); Strict(a, b) != want {
				t.Errorf("Strict of %v, %v is not %v", a, b, want)
			}
			if want := fieldsAlike(a, b, bits.Same); Same(a, b) != want {
				t.Errorf("Same of %v, %v is not %v", a, b, want)
			}
		}
	}
}

// No two values that may be are the same here: Strict and Same tell them apart, but for noughts.
func TestStrictOfUnlikeValues(t *testing.T) {
	l := allowed()
	for i, a := range l {
		for j, b := range l {
			noughts := kindOf(a) == api.VNum && kindOf(b) == api.VNum && a.Bits&^minusNought == 0 && b.Bits&^minusNought == 0
			none := i == j && a == Num(api.NaN)
			if Same(a, b) != (i == j) {
				t.Errorf("Same of %v, %v", a, b)
			}
			if Strict(a, b) != (i == j && !none || noughts) {
				t.Errorf("Strict of %v, %v", a, b)
			}
		}
	}
}
