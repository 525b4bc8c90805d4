package u256

import (
	"math/bits"

	"waybill/api"
)

// And tells the bits that both have.
func And(x, y api.U256) api.U256 {
	for i := range x {
		x[i] &= y[i]
	}
	return x
}

// Or tells the bits that either has.
func Or(x, y api.U256) api.U256 {
	for i := range x {
		x[i] |= y[i]
	}
	return x
}

// Xor tells the bits that just one has.
func Xor(x, y api.U256) api.U256 {
	for i := range x {
		x[i] ^= y[i]
	}
	return x
}

// Not tells the bits that x has not.
func Not(x api.U256) api.U256 {
	for i := range x {
		x[i] = ^x[i]
	}
	return x
}

// Shl tells x, moved up by n places.
func Shl(x api.U256, n int) api.U256 {
	switch {
	case n <= -256 || n >= 256: // ahead of -n, which the least int has not
		return api.U256{}
	case n < 0:
		return down(x, -n)
	}
	return up(x, n)
}

// Shr tells x, moved down by n places.
func Shr(x api.U256, n int) api.U256 {
	switch {
	case n <= -256 || n >= 256:
		return api.U256{}
	case n < 0:
		return up(x, -n)
	}
	return down(x, n)
}

// up moves by 0 to 255 places.
func up(x api.U256, n int) api.U256 {
	var moved api.U256
	limbs, places := n/64, n%64
	for i := limbs; i < len(x); i++ {
		moved[i] = x[i-limbs] << places
		if i > limbs {
			moved[i] |= x[i-limbs-1] >> (64 - places)
		}
	}
	return moved
}

// down moves by 0 to 255 places.
func down(x api.U256, n int) api.U256 {
	var moved api.U256
	limbs, places := n/64, n%64
	for i := limbs; i < len(x); i++ {
		moved[i-limbs] = x[i] >> places
		if i > limbs {
			moved[i-limbs-1] |= x[i] << (64 - places)
		}
	}
	return moved
}

// Bit tells the bit at a place.
func Bit(x api.U256, i int) int {
	if i < 0 || i > 255 {
		return 0
	}
	return int(x[i/64] >> (i % 64) & 1)
}

// Len tells how many bits x has.
func Len(x api.U256) int {
	for i := len(x) - 1; i >= 0; i-- {
		if x[i] != 0 {
			return 64*i + bits.Len64(x[i])
		}
	}
	return 0
}
