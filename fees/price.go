package fees

import (
	"waybill/api"
	"waybill/tx"
	"waybill/u256"
)

// Price tells what a transaction pays for a unit of gas at a base fee, and how much of that is the tip.
func Price(t api.Tx, base api.U256) (price, tip api.U256, e api.Errno) {
	if e := tx.Draft(t); e != api.OK {
		return api.U256{}, api.U256{}, e
	}
	switch t.Type {
	case api.TypeLegacy, api.TypeAccess:
		return fixedPrice(t, base)
	default:
		return cappedPrice(t, base)
	}
}

// fixedPrice tells the one price of the older types: all of it that is not the base fee is the tip.
func fixedPrice(t api.Tx, base api.U256) (price, tip api.U256, e api.Errno) {
	tip, borrow := u256.Sub(t.Price, base)
	if borrow != 0 {
		return api.U256{}, api.U256{}, api.ErrFeeLow
	}
	return t.Price, tip, api.OK
}

// cappedPrice tells the price of the newer types, which follows the base fee.
func cappedPrice(t api.Tx, base api.U256) (price, tip api.U256, e api.Errno) {
	if u256.Cmp(t.Tip, t.Cap) > 0 {
		return api.U256{}, api.U256{}, api.ErrFeeTip
	}
	tip, borrow := u256.Sub(t.Cap, base)
	if borrow != 0 {
		return api.U256{}, api.U256{}, api.ErrFeeLow
	}
	if u256.Cmp(t.Tip, tip) < 0 {
		tip = t.Tip
	}
	price, _ = u256.Add(base, tip) // no more than the cap: nothing is carried
	return price, tip, api.OK
}

// capOf tells the most that a transaction pays for a unit of gas.
func capOf(t api.Tx) api.U256 {
	switch t.Type {
	case api.TypeLegacy, api.TypeAccess:
		return t.Price
	default:
		return t.Cap
	}
}

// Cost tells the greatest sum that a transaction can cost its sender.
func Cost(t api.Tx) (api.U256, api.Errno) {
	if e := tx.Draft(t); e != api.OK {
		return api.U256{}, e
	}
	gas, e := times(t.Gas, capOf(t))
	if e != api.OK {
		return api.U256{}, e
	}
	blobs, e := times(BlobGas(t), t.BlobCap)
	if e != api.OK {
		return api.U256{}, e
	}
	fee, e := plus(gas, blobs)
	if e != api.OK {
		return api.U256{}, e
	}
	return plus(fee, t.Value)
}

// Charge tells what is burnt and what is paid as a tip for so much gas.
func Charge(t api.Tx, base api.U256, used uint64) (burnt, paid api.U256, e api.Errno) {
	price, tip, e := Price(t, base)
	if e != api.OK {
		return api.U256{}, api.U256{}, e
	}
	if used > t.Gas {
		return api.U256{}, api.U256{}, api.ErrFeeLimit
	}
	if _, e := times(used, price); e != api.OK {
		return api.U256{}, api.U256{}, e
	}
	// The price is these two together: what fits of it fits of them.
	burnt, _ = times(used, base)
	paid, _ = times(used, tip)
	return burnt, paid, api.OK
}

// times tells the price of so much gas.
func times(gas uint64, price api.U256) (api.U256, api.Errno) {
	high, low := u256.Mul(u256.From(gas), price)
	if high != (api.U256{}) {
		return api.U256{}, api.ErrFeeWide
	}
	return low, api.OK
}

func plus(x, y api.U256) (api.U256, api.Errno) {
	sum, carry := u256.Add(x, y)
	if carry != 0 {
		return api.U256{}, api.ErrFeeWide
	}
	return sum, api.OK
}
