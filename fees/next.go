package fees

import (
	"waybill/api"
	"waybill/u256"
)

const (
	elasticity = 2 // a block may use so many times its target
	slowness   = 8 // a block whose gas is off by its whole target moves the base fee by one such part
)

// NextBase tells the base fee behind a block of that base fee, gas limit and gas used.
func NextBase(base api.U256, limit, used uint64) (api.U256, api.Errno) {
	if limit < elasticity {
		return api.U256{}, api.ErrArg
	}
	if used > limit {
		return api.U256{}, api.ErrFeeLimit
	}
	target := limit / elasticity
	switch {
	case used > target:
		return plus(base, rise(base, used-target, target))
	case used < target:
		next, _ := u256.Sub(base, step(base, target-used, target))
		return next, api.OK
	}
	return base, api.OK
}

// rise is never 0: else a base fee that is small could not leave its place.
func rise(base api.U256, off, target uint64) api.U256 {
	d := step(base, off, target)
	if d == (api.U256{}) {
		return u256.From(1)
	}
	return d
}

// step tells how far the base fee moves, the gas used being so far off the target.
func step(base api.U256, off, target uint64) api.U256 {
	_, divisor := u256.Mul(u256.From(slowness), u256.From(target))
	d, _ := u256.MulDiv(base, u256.From(off), divisor) // off is at most twice the target: a quarter of base is the most, so it fits
	return d
}

// NextExcess tells the excess blob gas behind a block.
func NextExcess(excess, used, target uint64) (uint64, api.Errno) {
	sum, _ := u256.Add(u256.From(excess), u256.From(used))
	rest, borrow := u256.Sub(sum, u256.From(target))
	if borrow != 0 {
		return 0, api.OK
	}
	next, e := u256.Small(rest)
	if e != api.OK {
		return 0, api.ErrFeeWide
	}
	return next, api.OK
}

// BlobBase tells the price of a unit of blob gas at an excess: e to the power of excess / fraction, nearly, by the terms of its series.
func BlobBase(excess, fraction uint64) (api.U256, api.Errno) {
	if fraction == 0 {
		return api.U256{}, api.ErrArg
	}
	unit := u256.From(fraction) // the terms are told in such parts of 1
	var sum api.U256
	for a, i := unit, uint64(1); a != (api.U256{}); i++ {
		var e api.Errno
		if sum, e = plus(sum, a); e != api.OK {
			return api.U256{}, e
		}
		_, divisor := u256.Mul(unit, u256.From(i))
		if a, e = u256.MulDiv(a, u256.From(excess), divisor); e != api.OK {
			return api.U256{}, api.ErrFeeWide
		}
	}
	price, _, _ := u256.DivMod(sum, unit)
	return price, api.OK
}
