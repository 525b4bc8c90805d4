package u256

import "waybill/api"

// Exp tells x to the power of y modulo 2 to the power of 256.
func Exp(x, y api.U256) api.U256 {
	power := From(1)
	for i := Len(y) - 1; i >= 0; i-- {
		_, power = Mul(power, power)
		if Bit(y, i) == 1 {
			_, power = Mul(power, x)
		}
	}
	return power
}

// Root tells the whole part of the square root.
func Root(x api.U256) api.U256 {
	if x == (api.U256{}) {
		return x
	}
	// Newton's steps from above the root fall till they have reached it, and never go below.
	root := Shl(From(1), (Len(x)+1)/2)
	for {
		q, _, _ := DivMod(x, root)
		sum, _ := Add(root, q) // of at most 130 bits
		next := Shr(sum, 1)
		if Cmp(next, root) >= 0 {
			return root
		}
		root = next
	}
}
