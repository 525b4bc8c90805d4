package ecdsa

import (
	"waybill/api"
	"waybill/field"
	"waybill/u256"
)

// The arithmetic modulo n: field's, of which no call here can fail: n is one of its moduli, and an inverse is asked of numbers from 1 to n - 1 alone.

func order() api.U256 {
	n, _ := field.Modulus(api.FieldN)
	return n
}

func reduced(x api.U256) api.U256 {
	r, _ := field.Reduce(api.FieldN, api.U256{}, x)
	return r
}

func sum(x, y api.U256) api.U256 {
	r, _ := field.Add(api.FieldN, x, y)
	return r
}

func product(x, y api.U256) api.U256 {
	r, _ := field.Mul(api.FieldN, x, y)
	return r
}

func inverse(x api.U256) api.U256 {
	r, _ := field.Inverse(api.FieldN, x)
	return r
}

func opposite(x api.U256) api.U256 {
	r, _ := field.Neg(api.FieldN, x)
	return r
}

func isZero(x api.U256) bool { return x == api.U256{} }

func isOdd(x api.U256) bool { return u256.Bit(x, 0) == 1 }

func isBelowN(x api.U256) bool { return u256.Cmp(x, order()) < 0 }

// isInside tells whether x is 1 to n - 1: what a key, a nonce, an r and an s must be.
func isInside(x api.U256) bool { return !isZero(x) && isBelowN(x) }

// isLow tells whether x is at most (n - 1) / 2; n is odd, so that is n without its last bit, halved.
func isLow(x api.U256) bool { return u256.Cmp(x, u256.Shr(order(), 1)) <= 0 }

// number tells e, the digest's number modulo n.
func number(digest api.Hash) api.U256 { return reduced(whole(digest[:])) }

// whole tells the number of 32 bytes.
func whole(b []byte) api.U256 {
	x, _ := u256.Get(b)
	return x
}
