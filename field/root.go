package field

import (
	"waybill/api"
	"waybill/u256"
)

// Root tells the even square root modulo the prime.
func Root(x api.U256) (api.U256, api.Errno) {
	f := moduli[api.FieldP]
	// p leaves 3 when divided by 4: so a square's power of (p + 1) / 4, the whole part of p / 4 and 1, is a root of it.
	quarter, _ := u256.Add(u256.Shr(f.m, 2), u256.From(1))
	root := f.exp(x, quarter)
	if f.mul(root, root) != f.once(x) {
		return api.U256{}, api.ErrFieldRoot
	}
	if u256.Bit(root, 0) == 1 {
		root = f.sub(api.U256{}, root)
	}
	return root, api.OK
}

// Residue tells 1 of a square, -1 of none, 0 of 0, modulo the prime.
func Residue(x api.U256) int {
	f := moduli[api.FieldP]
	power := f.exp(x, u256.Shr(f.m, 1)) // of (p - 1) / 2: 0, 1 or p - 1 (Euler)
	switch {
	case power == u256.From(0):
		return 0
	case power == u256.From(1):
		return 1
	}
	return -1
}
