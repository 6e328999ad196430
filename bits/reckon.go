package bits

import (
	"math"

	"septum/api"
)

// Add tells a and b together.
func Add(a, b uint64) uint64 {
	return pack(math.Float64frombits(a) + math.Float64frombits(b))
}

// Sub tells a less b.
func Sub(a, b uint64) uint64 {
	return pack(math.Float64frombits(a) - math.Float64frombits(b))
}

// Mul tells a times b.
func Mul(a, b uint64) uint64 {
	// The conversion keeps a compiler from reckoning on with what is not rounded yet.
	return pack(float64(math.Float64frombits(a) * math.Float64frombits(b)))
}

// Div tells a by b.
func Div(a, b uint64) uint64 {
	return pack(math.Float64frombits(a) / math.Float64frombits(b))
}

// Rem tells what is left of a, if b is taken away as often as it goes.
func Rem(a, b uint64) uint64 {
	if isNone(a) || isNone(b) || isInfinite(a) || isNought(b) {
		return api.NaN
	}
	if isInfinite(b) || isNought(a) {
		return a
	}
	whole, power := parts(a)
	by, least := parts(b)
	// A power above the least of all comes with the hidden bit: then b is the greater one.
	if power < least {
		return a
	}
	left := remainder(whole, by, power-least)
	return a&signBit | join(left, least)
}

// remainder tells what is left of whole times two to the power, by what is below 2^53, without rounding.
func remainder(whole, by uint64, power int) uint64 {
	left := whole % by
	for power > 0 {
		// What is left has 53 bits at most: eleven more fit into a word.
		step := min(power, 11)
		left = left << step % by
		power -= step
	}
	return left
}

// Neg tells a with the other sign.
func Neg(a uint64) uint64 {
	if isNone(a) {
		return api.NaN
	}
	return a ^ signBit
}

// pack tells x's bits; of no number always the same ones.
func pack(x float64) uint64 {
	if x != x {
		return api.NaN
	}
	return math.Float64bits(x)
}
