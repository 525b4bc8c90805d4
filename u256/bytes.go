package u256

import (
	"slices"

	"waybill/api"
)

// Put tells the 32 bytes, the highest first.
func Put(x api.U256) [32]byte {
	var b [32]byte
	for i := range b {
		b[len(b)-1-i] = byte(x[i/8] >> (i % 8 * 8))
	}
	return b
}

// Bytes tells the bytes without zeros ahead.
func Bytes(x api.U256) []byte {
	b := Put(x)
	size := (Len(x) + 7) / 8
	return slices.Clone(b[len(b)-size:])
}

// Get reads up to 32 bytes.
func Get(b []byte) (api.U256, api.Errno) {
	if len(b) > 32 {
		return api.U256{}, api.ErrNumLong
	}
	var x api.U256
	for i := range b {
		x[i/8] |= uint64(b[len(b)-1-i]) << (i % 8 * 8)
	}
	return x, api.OK
}

// Strict reads bytes without zeros ahead.
func Strict(b []byte) (api.U256, api.Errno) {
	x, e := Get(b)
	if e == api.OK && len(b) > 0 && b[0] == 0 {
		return api.U256{}, api.ErrNumLead
	}
	return x, e
}
