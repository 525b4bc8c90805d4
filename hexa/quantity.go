package hexa

import (
	"waybill/api"
	"waybill/u256"
)

// Quantity tells a number as 0x and as few digits as can be.
func Quantity(v api.U256) string {
	text := []byte(front)
	for at := highest(v); at >= 0; at -= 4 {
		text = append(text, digits[v[at/64]>>(at%64)&15])
	}
	return string(text)
}

// ParseQuantity reads such a text.
func ParseQuantity(s string) (api.U256, api.Errno) { return quantity(s, 64) }

// Uint tells a number below 2^64 as Quantity does.
func Uint(v uint64) string { return Quantity(u256.From(v)) }

// ParseUint reads a quantity below 2^64.
func ParseUint(s string) (uint64, api.Errno) {
	v, e := quantity(s, 16)
	return v[0], e
}

// highest tells at which bit a number's first digit begins; zero has a digit too.
func highest(v api.U256) int { return max(u256.Len(v)-1, 0) / 4 * 4 }

// quantity reads a number of at most so many digits.
func quantity(s string, most int) (api.U256, api.Errno) {
	tail, ok := tailOf(s)
	switch {
	case !ok || len(tail) == 0:
		return api.U256{}, api.ErrHexForm
	case len(tail) > 1 && tail[0] == '0':
		return api.U256{}, api.ErrHexZero
	case len(tail) > most:
		return api.U256{}, api.ErrHexWide
	}
	var v api.U256
	for i := range len(tail) {
		at := 4 * (len(tail) - 1 - i)
		v[at/64] |= uint64(value(tail[i])) << (at % 64)
	}
	return v, api.OK
}
