// Package root is layer 2: roots, logarithms and slowly following means in
// whole numbers. See shared/doc/02-root.md.
package root

import (
	"pacemaker/sat"
)

const (
	MaxBase = 1 << 31
	MaxSlow = 16
)

// Sqrt returns the greatest number whose square is not greater than n.
func Sqrt(n uint64) uint64 {
	var root uint64
	// 32 bits are all that a root has, so no square exceeds 64 bits.
	for i := range 32 {
		more := root | 1<<(31-i)
		if more*more <= n {
			root = more
		}
	}
	return root
}

// Log returns the greatest k such that 2^k is not greater than n, and -1
// for 0.
func Log(n uint64) int {
	if n == 0 {
		return -1
	}
	log := 0
	// A logarithm is below 64: it has 6 bits, and each halves what is left.
	for i := range 6 {
		more := log | 1<<(5-i)
		if n>>more != 0 {
			log = more
		}
	}
	return log
}

// Part returns the greatest number k such that k * k * count is not greater
// than base * base; the base if count is 0.
func Part(base, count uint64) uint64 {
	base = min(base, MaxBase)
	if count == 0 {
		return base
	}
	// k * k is whole, so rounding the quotient down excludes no k.
	return Sqrt(base * base / count)
}

// Follow returns mean after it has followed x once.
func Follow(mean, x uint64, slow int) uint64 {
	// Nothing is lost before the capped addition: what is taken off a mean
	// is at most the mean itself.
	return sat.Add(mean-Mean(mean, slow), x)
}

// Mean returns the actual mean of one that is stored multiplied by 2^slow.
func Mean(mean uint64, slow int) uint64 {
	return mean >> min(max(slow, 0), MaxSlow)
}
