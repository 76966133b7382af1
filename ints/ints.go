// Package ints is layer 1: whole numbers of 64 bits that are checked. See shared/doc/01-ints.md.
package ints

import "jigsaw/api"

// Add is the sum.
func Add(a, b int64) (int64, api.Errno) {
	sum := a + b
	// A sum that wrapped round lies on the wrong side of a.
	if (sum > a) != (b > 0) {
		return 0, api.ErrOver
	}
	return sum, api.OK
}

// Sub is the difference.
func Sub(a, b int64) (int64, api.Errno) {
	rest := a - b
	// A difference that wrapped round lies on the wrong side of a.
	if (rest < a) != (b > 0) {
		return 0, api.ErrOver
	}
	return rest, api.OK
}

// Mul is the product.
func Mul(a, b int64) (int64, api.Errno) {
	return product(a, b).narrow()
}

// Neg is the number with its sign turned.
func Neg(a int64) (int64, api.Errno) {
	return Sub(0, a)
}

// Abs is the number without its sign.
func Abs(a int64) (int64, api.Errno) {
	if a < 0 {
		return Neg(a)
	}
	return a, api.OK
}

// Div is the quotient, cut off towards 0.
func Div(a, b int64) (int64, api.Errno) {
	switch b {
	case 0:
		return 0, api.ErrZero
	case -1: // the one divisor whose quotient may be beyond
		return Neg(a)
	}
	return a / b, api.OK
}

// Mod is what Div leaves, with a's sign.
func Mod(a, b int64) (int64, api.Errno) {
	switch b {
	case 0:
		return 0, api.ErrZero
	case -1: // nothing is left, not even where the quotient is beyond
		return 0, api.OK
	}
	return a % b, api.OK
}

// Floor is the greatest whole number that is not above the quotient.
func Floor(a, b int64) (int64, api.Errno) {
	q, e := Div(a, b)
	if e == api.OK && a%b != 0 && (a < 0) != (b < 0) {
		q--
	}
	return q, e
}

// Ceil is the least whole number that is not below the quotient.
func Ceil(a, b int64) (int64, api.Errno) {
	q, e := Div(a, b)
	if e == api.OK && a%b != 0 && (a < 0) == (b < 0) {
		q++
	}
	return q, e
}

// Dot is the sum of the products of each two; only the whole sum has to fit.
func Dot(a, b []int64) (int64, api.Errno) {
	if len(a) != len(b) {
		return 0, api.ErrArg
	}
	var sum wide
	for i, x := range a {
		sum = sum.plus(product(x, b[i]))
	}
	return sum.narrow()
}

// Root is the greatest whole number whose square is not above a.
func Root(a int64) (int64, api.Errno) {
	if a < 0 {
		return 0, api.ErrArg
	}
	root := uint64(0)
	for place := 31; place >= 0; place-- {
		// Below 2^32, so that its square is within 64 bits without a sign.
		more := root | 1<<place
		if more*more <= uint64(a) {
			root = more
		}
	}
	return int64(root), api.OK
}
