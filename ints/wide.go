package ints

import (
	"math/bits"

	"jigsaw/api"
)

// wide is a whole number of 192 bits in two's complement, its lowest word first. A product takes 128 bits, a sum of many of them some more.
type wide [3]uint64

// signWord has every bit as the highest one of w: the word above w in two's complement.
func signWord(w uint64) uint64 {
	return uint64(int64(w) >> 63)
}

// product is a times b.
func product(a, b int64) wide {
	hi, lo := bits.Mul64(uint64(a), uint64(b))
	// A factor below 0 was taken as 2^64 too great.
	if a < 0 {
		hi -= uint64(b)
	}
	if b < 0 {
		hi -= uint64(a)
	}
	return wide{lo, hi, signWord(hi)}
}

// plus is the sum.
func (w wide) plus(o wide) wide {
	lo, carry := bits.Add64(w[0], o[0], 0)
	mid, carry := bits.Add64(w[1], o[1], carry)
	hi, _ := bits.Add64(w[2], o[2], carry)
	return wide{lo, mid, hi}
}

// narrow is the same number in 64 bits; ErrOver, if it does not fit.
func (w wide) narrow() (int64, api.Errno) {
	sign := signWord(w[0])
	if w[1] != sign || w[2] != sign {
		return 0, api.ErrOver
	}
	return int64(w[0]), api.OK
}
