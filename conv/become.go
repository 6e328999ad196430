package conv

import (
	"strings"

	"septum/api"
	"septum/bits"
	"septum/lex"
)

const (
	lastIndex   = 1<<32 - 2 // an array's length, which is above its indexes, has 32 bits
	indexDigits = 10        // as many as lastIndex has
)

// Truth tells which truth a value becomes.
func Truth(v api.Value) bool {
	switch v.Kind {
	case api.VBool:
		return v.Bits != 0
	case api.VNum:
		return !bits.Equal(v.Bits, 0) && !bits.Same(v.Bits, api.NaN)
	case api.VText:
		return v.Text != ""
	case api.VObj:
		return true
	}
	return false
}

// Number tells which number a value becomes.
func Number(v api.Value) (uint64, api.Errno) {
	switch v.Kind {
	case api.VNull:
		return bits.Of(0), api.OK
	case api.VBool:
		if v.Bits != 0 {
			return bits.Of(1), api.OK
		}
		return bits.Of(0), api.OK
	case api.VNum:
		return v.Bits, api.OK
	case api.VText:
		return bits.Parse(v.Text), api.OK
	case api.VObj:
		return 0, api.ErrType
	}
	return api.NaN, api.OK
}

// Text tells which text a value becomes.
func Text(v api.Value) (string, api.Errno) {
	switch v.Kind {
	case api.VNull:
		return "null", api.OK
	case api.VBool:
		if v.Bits != 0 {
			return "true", api.OK
		}
		return "false", api.OK
	case api.VNum:
		return bits.Text(v.Bits), api.OK
	case api.VText:
		return strings.Clone(v.Text), api.OK
	case api.VObj:
		return "", api.ErrType
	}
	return "undefined", api.OK
}

// Type tells a value's kind, as a guest's typeof names it.
func Type(v api.Value) string {
	switch v.Kind {
	case api.VNull, api.VObj:
		return "object"
	case api.VBool:
		return "boolean"
	case api.VNum:
		return "number"
	case api.VText:
		return "string"
	}
	return "undefined"
}

// Show writes a value for somebody who reads it.
func Show(v api.Value) string {
	switch v.Kind {
	case api.VText:
		return lex.Print(api.Token{Kind: api.TkText, Text: v.Text})
	case api.VObj:
		return "[object]"
	}
	// All others have one.
	s, _ := Text(v)
	return s
}

// Index tells which index of an array a key is, if it is one.
func Index(s string) (int, bool) {
	if s == "" || len(s) > indexDigits || s[0] == '0' && s != "0" {
		return 0, false
	}
	n := 0
	for i := range len(s) {
		if s[i] < '0' || s[i] > '9' {
			return 0, false
		}
		n = n*10 + int(s[i]-'0')
	}
	if n > lastIndex {
		return 0, false
	}
	return n, true
}
