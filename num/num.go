// Package num is times, products and shares. See ../../shared/doc/01-num.md.
package num

import (
	"math/bits"

	"boatswain/api"
)

// Add is a sum of times, at most the last one.
func Add(a, b uint64) uint64 {
	if a > api.MaxTime-b {
		return api.MaxTime
	}
	return a + b
}

// Sub is a difference of times, at least 0.
func Sub(a, b uint64) uint64 {
	if a < b {
		return 0
	}
	return a - b
}

// Mul is a product, whole: two times of 64 bits need up to 128.
func Mul(a, b uint64) api.U128 {
	hi, lo := bits.Mul64(a, b)
	return api.U128{Hi: hi, Lo: lo}
}

// Less tells whether a times b is less than c times d. Shares are held against
// each other by it, so that none is rounded.
func Less(a, b, c, d uint64) bool {
	l, r := Mul(a, b), Mul(c, d)
	if l.Hi != r.Hi {
		return l.Hi < r.Hi
	}
	return l.Lo < r.Lo
}

// Share is a part of a whole as a float; a whole of 0 is left to the floats' own rules.
func Share(part, whole uint64) float64 {
	return float64(part) / float64(whole)
}

// Clamp is a float between 0 and 1. What is no number is above nothing, and -0
// is not above 0: so both fall through to the plain 0.
func Clamp(x float64) float64 {
	if x > 1 {
		return 1
	}
	if x > 0 {
		return x
	}
	return 0
}

// Mean is that of some floats, each Clamped; of none it is 0 by 0, which is no number.
func Mean(l ...float64) float64 {
	sum := 0.0
	for _, x := range l {
		sum += Clamp(x)
	}
	return sum / float64(len(l))
}

// Highest is the highest bit that is set in four words, from 0 on; -1: none.
func Highest(w [4]uint64) int {
	if w == [4]uint64{} {
		return -1
	}
	highest := 0
	for i := range len(w) {
		if w[i] != 0 { // a later word outdoes all ahead of it
			highest = 64*i + bits.Len64(w[i]) - 1
		}
	}
	return highest
}
