package u256

import (
	"math"
	"math/bits"

	"waybill/api"
)

// wide is a number below 2^512: eight limbs, the lowest first.
type wide [8]uint64

func join(high, low api.U256) wide {
	var w wide
	for i := range low {
		w[i], w[i+len(low)] = low[i], high[i]
	}
	return w
}

func split(w wide) (high, low api.U256) {
	for i := range low {
		low[i], high[i] = w[i], w[i+len(low)]
	}
	return high, low
}

// DivMod tells the quotient and the rest.
func DivMod(x, y api.U256) (q, r api.U256, e api.Errno) {
	if y == (api.U256{}) {
		return api.U256{}, api.U256{}, api.ErrNumZero
	}
	whole, rest := divide(join(api.U256{}, x), y)
	_, q = split(whole)
	return q, rest, api.OK
}

// Reduce tells the rest of a number of 512 bits.
func Reduce(high, low, m api.U256) (api.U256, api.Errno) {
	if m == (api.U256{}) {
		return api.U256{}, api.ErrNumZero
	}
	_, rest := divide(join(high, low), m)
	return rest, api.OK
}

// MulDiv tells the whole part of x * y / m.
func MulDiv(x, y, m api.U256) (api.U256, api.Errno) {
	if m == (api.U256{}) {
		return api.U256{}, api.ErrNumZero
	}
	whole, _ := divide(join(Mul(x, y)), m)
	high, low := split(whole)
	if high != (api.U256{}) {
		return api.U256{}, api.ErrNumLong
	}
	return low, api.OK
}

// AddMod tells x + y modulo m.
func AddMod(x, y, m api.U256) (api.U256, api.Errno) {
	sum, carry := Add(x, y)
	return Reduce(From(carry), sum, m)
}

// MulMod tells x * y modulo m.
func MulMod(x, y, m api.U256) (api.U256, api.Errno) {
	high, low := Mul(x, y)
	return Reduce(high, low, m)
}

// divide tells the quotient and the rest of x by m, which is not 0: long division with limbs for digits (Knuth's algorithm D).
func divide(x wide, m api.U256) (q wide, r api.U256) {
	size := (Len(m) + 63) / 64
	// Both are moved up till the divisor's top bit is set: only then is a guessed digit at most 2 too high.
	shift := bits.LeadingZeros64(m[size-1])
	d := Shl(m, shift)
	u := lift(x, shift)
	for i := len(x) - size; i >= 0; i-- {
		q[i] = digit(u[i:i+size+1], d[:size])
	}
	copy(r[:], u[:size])
	return q, Shr(r, shift)
}

// lift tells x, moved up by less than 64 places, with the bits that leave its top in one limb more.
func lift(x wide, shift int) [9]uint64 {
	var u [9]uint64
	for i, limb := range x {
		u[i] |= limb << shift
		u[i+1] = limb >> (64 - shift)
	}
	return u
}

// digit tells the quotient of u by d and leaves the rest in u. u has one limb more than d, and without its lowest limb it is below d: so the quotient is one limb.
func digit(u, d []uint64) uint64 {
	top := len(d)
	q := guess(u[top], u[top-1], d[top-1])
	borrow := takeOff(u, d, q)
	for borrow != 0 {
		q--
		borrow -= giveBack(u, d)
	}
	return q
}

// guess tells a digit from the top limbs alone: the right one, or one that is too high.
func guess(high, low, d uint64) uint64 {
	if high >= d { // bits.Div64 would panic
		return math.MaxUint64
	}
	q, _ := bits.Div64(high, low, d)
	return q
}

// takeOff takes d * q off u and tells the borrow.
func takeOff(u, d []uint64, q uint64) uint64 {
	var high, low, borrow uint64
	for i := range d {
		high, low = mulAdd(d[i], q, high, 0)
		u[i], borrow = bits.Sub64(u[i], low, borrow)
	}
	top := len(d)
	u[top], borrow = bits.Sub64(u[top], high, borrow)
	return borrow
}

// giveBack adds d to u and tells the carry.
func giveBack(u, d []uint64) uint64 {
	var carry uint64
	for i := range d {
		u[i], carry = bits.Add64(u[i], d[i], carry)
	}
	top := len(d)
	u[top], carry = bits.Add64(u[top], 0, carry)
	return carry
}
