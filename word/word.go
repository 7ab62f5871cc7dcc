// Package word is layer 1: see shared/doc/01-word.md.
package word

import "math"

// reduce returns the word that differs from x by a multiple of 2^32.
func reduce[I int64 | uint32](x I) int32 { return int32(x) }

// reduceOver reduces x, and reports whether it does not fit. Sums, differences, products and quotients of words are exact in an int64.
func reduceOver(x int64) (r int32, over bool) {
	r = reduce(x)
	return r, int64(r) != x
}

// Add returns the sum of a and b modulo 2^32, and whether the true sum does not fit into a word.
func Add(a, b int32) (r int32, over bool) { return reduceOver(int64(a) + int64(b)) }

// Sub returns the difference a - b modulo 2^32, and whether the true difference does not fit.
func Sub(a, b int32) (r int32, over bool) { return reduceOver(int64(a) - int64(b)) }

// Mul returns the product modulo 2^32, and whether the true product does not fit.
func Mul(a, b int32) (r int32, over bool) { return reduceOver(int64(a) * int64(b)) }

// Div returns the quotient, rounded towards 0; 0 and true if b is 0 or the quotient does not fit.
func Div(a, b int32) (r int32, over bool) {
	if b == 0 || a == math.MinInt32 && b == -1 {
		return 0, true
	}
	return a / b, false
}

// Rem returns the remainder of that division; 0 and true if b is 0.
func Rem(a, b int32) (r int32, over bool) {
	if b == 0 {
		return 0, true
	}
	return reduce(int64(a) % int64(b)), false
}

// Sum returns the sum modulo 2^32.
func Sum(a, b int32) int32 {
	r, _ := Add(a, b)
	return r
}

// Diff returns the difference modulo 2^32.
func Diff(a, b int32) int32 {
	r, _ := Sub(a, b)
	return r
}

// Prod returns the product modulo 2^32.
func Prod(a, b int32) int32 {
	r, _ := Mul(a, b)
	return r
}

// Shl shifts a left by n places, n taken as unsigned; 0 for 32 places or more.
func Shl(a, n int32) int32 { return reduce(uint32(a) << uint32(n)) }

// Shr shifts a right logically by n places, n taken as unsigned; 0 for 32 places or more.
func Shr(a, n int32) int32 { return reduce(uint32(a) >> uint32(n)) }

// After reports whether a is after b on the circle of the clock.
func After(a, b int32) bool { return Diff(a, b) > 0 }

// Xword extends the sign of a part word.
func Xword(v, sign int32) int32 {
	if uint32(v) < uint32(sign) {
		return v
	}
	return reduce(int64(v) - 2*int64(sign))
}

// Cword returns v, and whether it does not fit into a part word.
func Cword(v, sign int32) (r int32, over bool) { return v, v >= sign || v < Diff(0, sign) }

// Csub0 returns i, and whether it is not below n, both taken as unsigned.
func Csub0(i, n int32) (r int32, over bool) { return i, uint32(i) >= uint32(n) }

// Ccnt1 returns n, and whether it is 0 or above most, both taken as unsigned.
func Ccnt1(n, most int32) (r int32, over bool) { return n, n == 0 || uint32(n) > uint32(most) }
