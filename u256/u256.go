// Package u256: whole numbers below 2 to the power of 256: see doc/01-u256.md.
package u256

import (
	"math/bits"

	"waybill/api"
)

// From tells v as such a number.
func From(v uint64) api.U256 { return api.U256{v} }

// Small tells x, if it fits into 64 bits.
func Small(x api.U256) (uint64, api.Errno) {
	if x != From(x[0]) {
		return 0, api.ErrNumLong
	}
	return x[0], api.OK
}

// Add tells the sum and the carry.
func Add(x, y api.U256) (api.U256, uint64) {
	var sum api.U256
	var carry uint64
	for i := range sum {
		sum[i], carry = bits.Add64(x[i], y[i], carry)
	}
	return sum, carry
}

// Sub tells the difference and the borrow.
func Sub(x, y api.U256) (api.U256, uint64) {
	var diff api.U256
	var borrow uint64
	for i := range diff {
		diff[i], borrow = bits.Sub64(x[i], y[i], borrow)
	}
	return diff, borrow
}

// Mul tells the whole product.
func Mul(x, y api.U256) (high, low api.U256) {
	var product wide
	for i := range x {
		var carry uint64
		for j := range y {
			carry, product[i+j] = mulAdd(x[i], y[j], product[i+j], carry)
		}
		product[i+len(y)] = carry
	}
	return split(product)
}

// Cmp tells -1, 0, 1: x is below y, is y, is above y.
func Cmp(x, y api.U256) int {
	if x == y {
		return 0
	}
	if _, borrow := Sub(x, y); borrow == 1 {
		return -1
	}
	return 1
}

// mulAdd tells a * b + c + d in two limbs: the greatest of these is 2^128 - 1, so nothing is lost.
func mulAdd(a, b, c, d uint64) (high, low uint64) {
	high, low = bits.Mul64(a, b)
	low, carry := bits.Add64(low, c, 0)
	high += carry
	low, carry = bits.Add64(low, d, 0)
	return high + carry, low
}
