package ints

import (
	"iter"
	"math/bits"

	"jigsaw/api"
)

// Pow is a to the power b. A power below 0 is a fraction, which is cut off towards 0.
func Pow(a, b int64) (int64, api.Errno) {
	if b >= 0 {
		return power(a, b)
	}
	switch a {
	case 0:
		return 0, api.ErrZero
	case 1:
		return 1, api.OK
	case -1:
		return 1 - 2*(b&1), api.OK
	}
	return 0, api.OK
}

// power squares for each bit of b, from the highest on: so nothing that comes up between is greater than the power itself, and what is beyond is so at last, too. (2^63 is no square: a square that is beyond is so with either sign.)
func power(a, b int64) (int64, api.Errno) {
	p, e := int64(1), api.OK
beyond:
	for one := range bitsFromTop(uint64(b)) {
		p, e = Mul(p, p)
		switch {
		case e != api.OK:
			break beyond
		case one:
			if p, e = Mul(p, a); e != api.OK {
				break beyond
			}
		}
	}
	return p, e
}

// bitsFromTop tells for each bit of n, from its highest one that is set on, if it is set.
func bitsFromTop(n uint64) iter.Seq[bool] {
	return func(yield func(bool) bool) {
		for place := bits.Len64(n) - 1; place >= 0; place-- {
			if !yield(n>>place&1 == 1) {
				return
			}
		}
	}
}
