// Package word is layer 1: words of 64 bits (shared/doc/01-word.md).
package word

import "math/bits"

// size is how many bits a word has; as a place it tells that there is no such bit.
const size = 64

// Mask answers the word whose lowest n bits are 1: none of an n below 0, all of one above 64.
func Mask(n int) uint64 {
	if n <= 0 { // a shift by less than 0 panics
		return 0
	}
	// A shift by 64 or more leaves 0, and one less than that is all ones: no n is too great.
	return uint64(1)<<n - 1
}

// Pop answers how many bits of x are 1.
func Pop(x uint64) int {
	return bits.OnesCount64(x)
}

// Rank answers how many of the lowest n bits of x are 1; n is taken as Mask takes it.
func Rank(x uint64, n int) int {
	return Pop(x & Mask(n))
}

// Select answers the place of the bit of x that is 1 and has k such bits below it, or 64 without one.
func Select(x uint64, k int) int {
	below := 0
	for place := range size {
		if x>>place&1 == 0 {
			continue
		}
		if below == k {
			return place
		}
		below++
	}
	return size
}

// Len answers the place of the highest bit of x that is 1, and one; 0 of 0.
func Len(x uint64) int {
	return bits.Len64(x)
}
