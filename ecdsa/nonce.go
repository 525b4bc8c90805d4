package ecdsa

import (
	"waybill/api"
	"waybill/sha"
	"waybill/u256"
)

const (
	nonces = 64  // so many may be asked for
	draws  = 256 // so many candidates are drawn for them
)

// Nonce tells the which-th nonce (from 0 on) that RFC 6979 draws out of a key and a digest.
func Nonce(key api.U256, digest api.Hash, which int) (api.U256, api.Errno) {
	if which < 0 || which >= nonces {
		return api.U256{}, api.ErrArg
	}
	if !isInside(key) {
		return api.U256{}, api.ErrKey
	}
	return chosen(candidates(key, number(digest)), which)
}

// chosen tells the which-th fit one of the candidates that next gives.
func chosen(next func() api.U256, which int) (api.U256, api.Errno) {
	fit := 0
	for range draws {
		candidate := next()
		if !isInside(candidate) {
			continue
		}
		if fit == which {
			return candidate, api.OK
		}
		fit++
	}
	return api.U256{}, api.ErrSigZero
}

// candidates tells a function that draws one candidate at each call; k and v, which chapter 6 calls K and V, live on in it.
func candidates(key, digest api.U256) func() api.U256 {
	d, e := u256.Put(key), u256.Put(digest)
	var k, v api.Hash
	for i := range v {
		v[i] = 1
	}
	stir := func(mark byte, rest ...[]byte) {
		k = sha.HMAC(k[:], append([][]byte{v[:], {mark}}, rest...)...)
		v = sha.HMAC(k[:], v[:])
	}
	stir(0, d[:], e[:])
	stir(1, d[:], e[:])
	isFirst := true
	return func() api.U256 {
		if !isFirst {
			stir(0)
		}
		isFirst = false
		v = sha.HMAC(k[:], v[:])
		return whole(v[:])
	}
}
