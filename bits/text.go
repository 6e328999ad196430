package bits

import (
	"math"
	"strconv"
	"strings"

	"septum/api"
)

const (
	blanks    = " \t\r\n"
	hexDigits = "0123456789abcdef"
	hexLength = 16 // digits of a number's bits
	noDigit   = 16 // not below any base that is read
)

// Text writes a number.
func Text(b uint64) string {
	if isNone(b) {
		return "NaN"
	}
	if isInfinite(b) {
		if b&signBit != 0 {
			return "-Infinity"
		}
		return "Infinity"
	}
	if n, ok := Whole(b); ok {
		return strconv.Itoa(n)
	}
	return "~" + hex(b)
}

// Parse reads a number.
func Parse(s string) uint64 {
	s = strings.Trim(s, blanks)
	switch {
	case s == "":
		return 0
	case s[0] == '~':
		return parseBits(s[1:])
	case strings.HasPrefix(s, "0x"), strings.HasPrefix(s, "0X"):
		return parseDigits(s[2:], 16)
	case s[0] == '-':
		return Neg(parseUnsigned(s[1:]))
	case s[0] == '+':
		return parseUnsigned(s[1:])
	}
	return parseUnsigned(s)
}

func hex(b uint64) string {
	var out [hexLength]byte
	for i := range hexLength {
		out[i] = hexDigits[b>>(60-4*i)&15]
	}
	return string(out[:])
}

func parseUnsigned(s string) uint64 {
	if s == "Infinity" {
		return infinity
	}
	return parseDigits(s, 10)
}

// parseDigits rounds digit by digit, as the document says, not once at the end.
func parseDigits(s string, base int) uint64 {
	if s == "" {
		return api.NaN
	}
	sum := 0.0
	for i := range len(s) {
		d := digit(s[i])
		if d >= base {
			return api.NaN
		}
		// The conversion rounds ahead of the addition.
		sum = float64(sum*float64(base)) + float64(d)
	}
	return pack(sum)
}

func parseBits(s string) uint64 {
	if len(s) != hexLength {
		return api.NaN
	}
	var b uint64
	for i := range hexLength {
		if isCapital(s[i]) || digit(s[i]) == noDigit {
			return api.NaN
		}
		b = b<<4 | uint64(digit(s[i]))
	}
	return pack(math.Float64frombits(b))
}

func isCapital(c byte) bool {
	return 'A' <= c && c <= 'Z'
}

// digit tells what a digit counts, noDigit of any other byte.
func digit(c byte) int {
	switch {
	case '0' <= c && c <= '9':
		return int(c - '0')
	case 'a' <= c && c <= 'f':
		return int(c-'a') + 10
	case 'A' <= c && c <= 'F':
		return int(c-'A') + 10
	}
	return noDigit
}
