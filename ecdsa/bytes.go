package ecdsa

import (
	"slices"

	"waybill/api"
	"waybill/u256"
)

const (
	width   = 32   // bytes of r, and of s
	oddMark = 0x80 // the bit that a low s leaves free in its first byte
)

// Pack tells a signature's 64 bytes.
func Pack(s api.Sig) ([]byte, api.Errno) {
	if e := Check(s); e != api.OK {
		return nil, e
	}
	first, second := u256.Put(s.R), u256.Put(s.S)
	if s.Odd {
		second[0] |= oddMark
	}
	return slices.Concat(first[:], second[:]), api.OK
}

// Unpack reads a signature's 64 bytes.
func Unpack(data []byte) (api.Sig, api.Errno) {
	if len(data) != 2*width {
		return api.Sig{}, api.ErrSigForm
	}
	second := [width]byte(data[width:])
	odd := second[0]&oddMark != 0
	second[0] &^= oddMark
	s := api.Sig{R: whole(data[:width]), S: whole(second[:]), Odd: odd}
	if e := Check(s); e != api.OK {
		return api.Sig{}, e
	}
	return s, api.OK
}
