package access

import (
	"waybill/api"
	"waybill/rlp"
)

// readField reads one field's item into an authorization; false: it is none of that field.
type readField func(a *api.Auth, it api.Item) bool

// readAuth goes through the fields' functions beside the items.
func readAuth(it api.Item) (api.Auth, bool) {
	fields := []readField{readChain, readWhose, readNonce, readParity, readR, readS}
	if !isList(it) || len(it.Items) != len(fields) {
		return api.Auth{}, false
	}
	var a api.Auth
	for i, read := range fields {
		if !read(&a, it.Items[i]) {
			return api.Auth{}, false
		}
	}
	return a, true
}

func readChain(a *api.Auth, it api.Item) bool {
	v, e := rlp.GetNumber(it)
	a.Chain = v
	return e == api.OK
}

func readWhose(a *api.Auth, it api.Item) bool {
	whose, ok := readAddress(it)
	a.Address = whose
	return ok
}

func readNonce(a *api.Auth, it api.Item) bool {
	v, e := rlp.GetSmall(it)
	a.Nonce = v
	return e == api.OK
}

func readParity(a *api.Auth, it api.Item) bool {
	v, e := rlp.GetSmall(it)
	a.Parity = v
	return e == api.OK && !isParityWide(*a)
}

func readR(a *api.Auth, it api.Item) bool {
	v, e := rlp.GetNumber(it)
	a.R = v
	return e == api.OK
}

func readS(a *api.Auth, it api.Item) bool {
	v, e := rlp.GetNumber(it)
	a.S = v
	return e == api.OK
}
