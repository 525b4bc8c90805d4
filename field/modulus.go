package field

import (
	"waybill/api"
	"waybill/u256"
)

// modulus: what hangs on the kind.
type modulus struct {
	m    api.U256
	rest api.U256 // 2^256 less m, which is 2^256 modulo m
}

// moduli has p at api.FieldP and n at api.FieldN.
var moduli = [2]modulus{
	{
		m:    api.U256{0xfffffffefffffc2f, 0xffffffffffffffff, 0xffffffffffffffff, 0xffffffffffffffff},
		rest: api.U256{0x00000001000003d1, 0, 0, 0},
	},
	{
		m:    api.U256{0xbfd25e8cd0364141, 0xbaaedce6af48a03b, 0xfffffffffffffffe, 0xffffffffffffffff},
		rest: api.U256{0x402da1732fc9bebf, 0x4551231950b75fc4, 1, 0},
	},
}

// of tells what hangs on the kind k.
func of(k int) (modulus, api.Errno) {
	if k != api.FieldP && k != api.FieldN {
		return modulus{}, api.ErrArg
	}
	return moduli[k], api.OK
}

// once takes m off, if x has it: twice m is above 2^256, so what is left is below m.
func (f modulus) once(x api.U256) api.U256 {
	less, borrow := u256.Sub(x, f.m)
	if borrow == 1 {
		return x
	}
	return less
}

// reduce folds high * 2^256 + low till it has 256 bits: the number falls by high * m each time, so there is an end (three folds at the most modulo p, four modulo n).
func (f modulus) reduce(high, low api.U256) api.U256 {
	for high != (api.U256{}) {
		high, low = fold(high, low, f.rest)
	}
	return f.once(low)
}

// fold tells high * rest + low in two parts, of which the high one is at most rest: so its sum has no carry.
func fold(high, low, rest api.U256) (api.U256, api.U256) {
	over, under := u256.Mul(high, rest)
	sum, carry := u256.Add(under, low)
	over, _ = u256.Add(over, u256.From(carry))
	return over, sum
}

func (f modulus) add(x, y api.U256) api.U256 {
	sum, carry := u256.Add(f.once(x), f.once(y))
	if carry == 0 {
		return f.once(sum)
	}
	less, _ := u256.Sub(sum, f.m) // the borrow is the carry: the sum was below twice m
	return less
}

func (f modulus) sub(x, y api.U256) api.U256 {
	diff, borrow := u256.Sub(f.once(x), f.once(y))
	if borrow == 0 {
		return diff
	}
	back, _ := u256.Add(diff, f.m) // the carry is the borrow
	return back
}

func (f modulus) mul(x, y api.U256) api.U256 { return f.reduce(u256.Mul(x, y)) }

// exp goes through the bits of e from the highest on.
func (f modulus) exp(x, e api.U256) api.U256 {
	power := u256.From(1)
	for i := u256.Len(e) - 1; i >= 0; i-- {
		power = f.mul(power, power)
		if u256.Bit(e, i) == 1 {
			power = f.mul(power, x)
		}
	}
	return power
}

// inverse tells x to the power of m - 2: where x is not 0, one factor x more makes 1 (Fermat).
func (f modulus) inverse(x api.U256) api.U256 {
	e, _ := u256.Sub(f.m, u256.From(2))
	return f.exp(x, e)
}
