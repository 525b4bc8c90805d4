package tool

import (
	"waybill/api"
	"waybill/keccak"
	"waybill/sha"
	"waybill/u256"
)

func hashCommands() map[string]command {
	return map[string]command{
		"keccak": {"d", func(_ *desk, v []value) (string, api.Errno) { return okHash(keccak.Sum(texts(v)...), api.OK) }},
		"sha3":   {"d", func(_ *desk, v []value) (string, api.Errno) { return okHash(keccak.Sha3(texts(v)...), api.OK) }},
		"sha":    {"d", func(_ *desk, v []value) (string, api.Errno) { return okHash(sha.Sum(texts(v)...), api.OK) }},
		"hmac":   {"Dd", playHMAC},
		"calc":   {"WNN", playCalc},
	}
}

func playHMAC(_ *desk, v []value) (string, api.Errno) {
	return okHash(sha.HMAC(v[0].data, texts(v[1:])...), api.OK)
}

func playCalc(_ *desk, v []value) (string, api.Errno) {
	return okNumber(calc(v[0].word, v[1].number, v[2].number))
}

// calc reckons as the word says; what does not fit into 256 bits is let go.
func calc(word string, x, y api.U256) (z api.U256, e api.Errno) {
	switch word {
	case "add":
		z, _ = u256.Add(x, y)
	case "sub":
		z, _ = u256.Sub(x, y)
	case "mul":
		_, z = u256.Mul(x, y)
	case "div":
		z, _, e = u256.DivMod(x, y)
	case "mod":
		_, z, e = u256.DivMod(x, y)
	case "exp":
		z = u256.Exp(x, y)
	default:
		e = api.ErrWord
	}
	return z, e
}
