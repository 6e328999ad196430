// Package bits is layer 1: numbers as the bits of IEEE 754's binary64, as a guest reckons with them.
package bits

import (
	"math"

	"septum/api"
)

// The parts of a number: its sign, the 11 bits of its power of two, and 52 bits of its fraction.
const (
	signBit  = 1 << 63
	hidden   = 1 << 52 // stands ahead of the fraction, unless the power's bits are all 0
	powers   = 0x7ff
	infinity = powers << 52
	lowest   = 1075 // a power's bits less this are the power, if the fraction counts as a whole number
)

// Of tells the number nearest to n.
func Of(n int) uint64 {
	return math.Float64bits(float64(n))
}

// Whole tells the whole number that b is, if it is one, and not beyond 2^53 on either side.
func Whole(b uint64) (int, bool) {
	x := math.Float64frombits(b)
	// Written so that no number fails it: nothing is at least, or at most, as great.
	inside := x >= -api.MaxWhole && x <= api.MaxWhole
	if !inside || x != math.Trunc(x) {
		return 0, false
	}
	return int(x), true
}

// Less tells whether a is below b, and whether that can be known.
func Less(a, b uint64) (yes, known bool) {
	if isNone(a) || isNone(b) {
		return false, false
	}
	return math.Float64frombits(a) < math.Float64frombits(b), true
}

// Equal tells whether a and b are the same number.
func Equal(a, b uint64) bool {
	return math.Float64frombits(a) == math.Float64frombits(b)
}

// Same tells whether a guest could never tell a from b.
func Same(a, b uint64) bool {
	return a == b || isNone(a) && isNone(b)
}

// Uint32 tells the lowest 32 bits of b without what is behind its point.
func Uint32(b uint64) uint32 {
	if isNone(b) || isInfinite(b) {
		return 0
	}
	whole, power := parts(b)
	// A shift by 64 or more leaves nothing; what it pushes out above is beyond 2^32 anyway.
	if power < 0 {
		whole >>= -power
	} else {
		whole <<= power
	}
	low := uint32(whole)
	if b&signBit != 0 {
		return -low
	}
	return low
}

// Int32 tells the same bits as a number with a sign.
func Int32(b uint64) int32 {
	return int32(Uint32(b))
}

// parts tells a finite number without its sign as a whole number times a power of two.
func parts(b uint64) (whole uint64, power int) {
	field := int(b >> 52 & powers)
	whole = b & (hidden - 1)
	if field == 0 {
		// A subnormal number has the least normal one's power.
		return whole, 1 - lowest
	}
	return whole | hidden, field - lowest
}

// join is the other way round than parts; whole times two to the power has to be a number, and whole below 2^53.
func join(whole uint64, power int) uint64 {
	field := power + lowest
	for whole < hidden && field > 1 {
		whole <<= 1
		field--
	}
	if whole < hidden {
		return whole
	}
	return uint64(field)<<52 | whole&(hidden-1)
}

func isNone(b uint64) bool {
	return b&^signBit > infinity
}

func isInfinite(b uint64) bool {
	return b&^signBit == infinity
}

func isNought(b uint64) bool {
	return b&^signBit == 0
}
