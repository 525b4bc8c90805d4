package tool

import (
	"waybill/address"
	"waybill/api"
	"waybill/curve"
	"waybill/ecdsa"
	"waybill/hexa"
	"waybill/message"
)

func keyCommands() map[string]command {
	return map[string]command{
		"key":      {"K", playKey},
		"sign":     {"KH", playSign},
		"recover":  {"HS", playRecover},
		"personal": {"KD", playPersonal},
		"spoke":    {"DS", playSpoke},
		"address":  {"A", playAddress},
		"create":   {"AU", playCreate},
		"create2":  {"AHD", playCreate2},
	}
}

func playKey(_ *desk, v []value) (string, api.Errno) {
	key := v[0].number
	a, e := address.OfKey(key)
	if e != api.OK {
		return "", e
	}
	point, e := curve.Compress(curve.MulG(key))
	return okay(hexa.Checksum(a), data(point)), e
}

func playSign(_ *desk, v []value) (string, api.Errno) {
	return okSignature(ecdsa.Sign(v[0].number, v[1].hash))
}

func playPersonal(_ *desk, v []value) (string, api.Errno) {
	return okSignature(message.SignPersonal(v[1].data, v[0].number))
}

func okSignature(s api.Sig, e api.Errno) (string, api.Errno) {
	if e != api.OK {
		return "", e
	}
	return okData(ecdsa.Pack(s))
}

func playRecover(_ *desk, v []value) (string, api.Errno) {
	s, e := ecdsa.Unpack(v[1].data)
	if e != api.OK {
		return "", e
	}
	key, e := ecdsa.Recover(v[0].hash, s)
	if e != api.OK {
		return "", e
	}
	return okAddress(address.OfPoint(key))
}

func playSpoke(_ *desk, v []value) (string, api.Errno) {
	s, e := ecdsa.Unpack(v[1].data)
	if e != api.OK {
		return "", e
	}
	return okAddress(message.RecoverPersonal(v[0].data, s))
}

func playAddress(_ *desk, v []value) (string, api.Errno) {
	return okAddress(v[0].address, api.OK)
}

func playCreate(_ *desk, v []value) (string, api.Errno) {
	return okAddress(address.Create(v[0].address, v[1].small), api.OK)
}

func playCreate2(_ *desk, v []value) (string, api.Errno) {
	return okAddress(address.Create2(v[0].address, v[1].hash, v[2].data), api.OK)
}
