// Package intn is layer 1: fixed-width integer arithmetic. See shared/doc/01-intn.md.
//
// A type that is not an integer type has width 0. Everything wraps to 0 there,
// which makes every function return zero values without a case of its own.
package intn

import (
	"burnish/api"
)

const (
	wordBits = 64
	minInt64 = -1 << 63
)

// widths holds the number of bits of each integer type, and 0 between them.
var widths = [...]int{api.Bool: 1, api.I8: 8, api.I32: 32, api.I64: 64}

// Bits returns the number of bits of an integer type, and 0 for other types.
func Bits(t api.Type) int {
	if t < 0 || int(t) >= len(widths) {
		return 0
	}
	return widths[t]
}

// Wrap returns the integer of t that is congruent to n modulo 2^Bits(t).
func Wrap(t api.Type, n int64) int64 {
	if t == api.Bool { // its integers are 0 and 1, not 0 and -1
		return n & 1
	}
	unused := wordBits - Bits(t)
	return n << unused >> unused
}

// Unsigned returns the lowest Bits(t) bits of n.
func Unsigned(t api.Type, n int64) uint64 {
	unused := wordBits - Bits(t)
	return uint64(n) << unused >> unused
}

// wrapAll wraps the operands where they stand.
func wrapAll(t api.Type, operands ...*int64) {
	for _, n := range operands {
		*n = Wrap(t, *n)
	}
}

// Add returns the wrapped sum, and whether the exact sum is not an integer of t.
func Add(t api.Type, a, b int64) (sum int64, overflow bool) {
	wrapAll(t, &a, &b)
	exact := a + b
	sum = Wrap(t, exact)
	return sum, sum != exact || a < 0 == (b < 0) && exact < 0 != (a < 0)
}

// Sub returns the wrapped difference, and whether the exact difference is not an integer of t.
func Sub(t api.Type, a, b int64) (diff int64, overflow bool) {
	wrapAll(t, &a, &b)
	exact := a - b
	diff = Wrap(t, exact)
	return diff, diff != exact || a < 0 != (b < 0) && exact < 0 != (a < 0)
}

// Mul returns the wrapped product, and whether the exact product is not an integer of t.
func Mul(t api.Type, a, b int64) (product int64, overflow bool) {
	wrapAll(t, &a, &b)
	exact := a * b
	product = Wrap(t, exact)
	return product, product != exact || leavesWord(a, b)
}

// leavesWord reports whether the exact product of a and b does not fit 64 bits.
func leavesWord(a, b int64) bool {
	if a == -1 { // the division below would wrap as the product did
		return b == minInt64
	}
	return a != 0 && a*b/a != b
}

// shiftAmount returns the unsigned amount n, and whether it is less than the width of t.
func shiftAmount(t api.Type, n int64) (uint64, bool) {
	amount := Unsigned(t, n)
	return amount, amount < uint64(Bits(t))
}

// Shl returns the wrapped a shifted left by n bits, or false if n is too great.
func Shl(t api.Type, a, n int64) (int64, bool) {
	amount, ok := shiftAmount(t, n)
	if !ok {
		return 0, false
	}
	return Wrap(t, a<<amount), true
}

// Lshr returns the wrapped a shifted right by n bits, filled with zeros, or false if n is too great.
func Lshr(t api.Type, a, n int64) (int64, bool) {
	amount, ok := shiftAmount(t, n)
	if !ok {
		return 0, false
	}
	return Wrap(t, int64(Unsigned(t, a)>>amount)), true
}

// Ashr returns the wrapped a shifted right by n bits, filled with its most significant bit, or false if n is too great.
func Ashr(t api.Type, a, n int64) (int64, bool) {
	amount, ok := shiftAmount(t, n)
	if !ok {
		return 0, false
	}
	return Wrap(t, a) >> amount, true
}

// Sdiv returns the quotient rounded toward zero and wrapped, or false if b wraps to 0.
func Sdiv(t api.Type, a, b int64) (int64, bool) {
	wrapAll(t, &a, &b)
	if b == 0 {
		return 0, false
	}
	return Wrap(t, a/b), true
}

// Srem returns the remainder, which has the sign of a, or false if b wraps to 0.
func Srem(t api.Type, a, b int64) (int64, bool) {
	wrapAll(t, &a, &b)
	if b == 0 {
		return 0, false
	}
	return a % b, true
}

// Ult reports whether a is less than b as unsigned integers of t.
func Ult(t api.Type, a, b int64) bool {
	return Unsigned(t, a) < Unsigned(t, b)
}

// Zext returns the bits of n in from, extended with zeros or cut to the width of to.
func Zext(from, to api.Type, n int64) int64 {
	return Wrap(to, int64(Unsigned(from, n)))
}
