package hexa

import (
	"waybill/api"
	"waybill/keccak"
)

// Checksum tells an address with letters whose case is a sum (EIP-55).
func Checksum(a api.Address) string {
	text := []byte(written(a[:]))
	tail := text[len(front):]
	sum := keccak.Sum(tail)
	for i, c := range tail {
		if isSmall(c) && half(sum, i) >= 8 {
			tail[i] = c - 'a' + 'A'
		}
	}
	return string(text)
}

// ParseAddress reads an address: in one case, or with the right sum.
func ParseAddress(s string) (api.Address, api.Errno) {
	var a api.Address
	tail, ok := tailOf(s)
	if !ok || len(tail) != 2*len(a) {
		return api.Address{}, api.ErrHexForm
	}
	read(a[:], tail)
	if isMixed(tail) && s != Checksum(a) {
		return api.Address{}, api.ErrHexCheck
	}
	return a, api.OK
}

// half tells the half byte at the place i of a digest, high halves first.
func half(h api.Hash, i int) byte {
	if i%2 == 0 {
		return h[i/2] >> 4
	}
	return h[i/2] & 15
}

// isMixed tells whether letters of both cases stand in a text.
func isMixed(tail string) bool {
	small, capital := false, false
	for i := range len(tail) {
		small = small || isSmall(tail[i])
		capital = capital || isCapital(tail[i])
	}
	return small && capital
}
