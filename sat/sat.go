// Package sat is layer 1: whole numbers that stop at the greatest number
// instead of wrapping round. See shared/doc/01-sat.md.
package sat

import (
	"math/bits"

	"pacemaker/api"
)

// Add returns a + b, capped.
func Add(a, b uint64) uint64 {
	sum, carry := bits.Add64(a, b, 0)
	return capped(carry, sum)
}

// Sub returns a - b, or 0 if b is greater than a.
func Sub(a, b uint64) uint64 {
	if b > a {
		return 0
	}
	return a - b
}

// Mul returns a * b, capped.
func Mul(a, b uint64) uint64 {
	return capped(bits.Mul64(a, b))
}

// MulAdd returns a + b * c, capped.
func MulAdd(a, b, c uint64) uint64 {
	// Capping twice gives what capping once would: a capped product stays
	// the greatest number whatever is added to it.
	return Add(a, Mul(b, c))
}

// MulDiv returns a * b / c, rounded down and capped; the greatest number if
// c is 0.
func MulDiv(a, b, c uint64) uint64 {
	high, low := bits.Mul64(a, b)
	// A quotient has more than 64 bits just where high is not below c; this
	// holds for every product if c is 0, and Div64 would panic there.
	if high >= c {
		return api.MaxU64
	}
	quotient, _ := bits.Div64(high, low, c)
	return quotient
}

// DivUp returns the least number whose product with b is at least a; the
// greatest number if there is none.
func DivUp(a, b uint64) uint64 {
	if a == 0 {
		return 0
	}
	if b == 0 {
		return api.MaxU64
	}
	// Adding b - 1 to a before dividing could exceed the greatest number.
	return (a-1)/b + 1
}

// Shift returns a * 2^n, capped; an n below 0 counts as 0.
func Shift(a uint64, n int) uint64 {
	n = max(n, 0)
	if n > bits.LeadingZeros64(a) && a != 0 {
		return api.MaxU64
	}
	return a << n
}

// Sum returns the sum of all elements of l, capped.
func Sum(l ...uint64) uint64 {
	var sum uint64
	for _, x := range l {
		sum = Add(sum, x)
	}
	return sum
}

// Under reports whether a * b is less than c * d.
func Under(a, b, c, d uint64) bool {
	high1, low1 := bits.Mul64(a, b)
	high2, low2 := bits.Mul64(c, d)
	if high1 != high2 {
		return high1 < high2
	}
	return low1 < low2
}

// capped returns low, or the greatest number if something is left above it.
func capped(high, low uint64) uint64 {
	if high != 0 {
		return api.MaxU64
	}
	return low
}
