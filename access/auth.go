package access

import (
	"slices"

	"waybill/address"
	"waybill/api"
	"waybill/ecdsa"
	"waybill/keccak"
	"waybill/rlp"
)

const (
	authMark  = 0x05      // stands ahead of what is signed: no transaction begins with it
	authLeast = 27        // bytes of an authorization all of whose numbers are 0
	topParity = 1<<8 - 1  // as much as a byte holds
	topNonce  = 1<<64 - 1 // no account may go beyond it, so none may use it
)

// AuthItem tells the item of authorizations.
func AuthItem(auths []api.Auth) (api.Item, api.Errno) {
	if slices.ContainsFunc(auths, isParityWide) {
		return api.Item{}, api.ErrAuth
	}
	if len(auths)*authLeast > api.MaxInput { // ahead of making a tree that is far too great
		return api.Item{}, api.ErrLong
	}
	items := make([]api.Item, len(auths))
	for i, a := range auths {
		items[i] = rlp.List(rlp.Number(a.Chain), rlp.Text(a.Address[:]), rlp.Small(a.Nonce), rlp.Small(a.Parity), rlp.Number(a.R), rlp.Number(a.S))
	}
	return fitting(rlp.List(items...))
}

func isParityWide(a api.Auth) bool { return a.Parity > topParity }

// ParseAuth reads the item of authorizations.
func ParseAuth(item api.Item) ([]api.Auth, api.Errno) {
	auths, ok := readAll(item, readAuth)
	if !ok {
		return nil, api.ErrAuth
	}
	return auths, api.OK
}

// AuthDigest tells what is signed of an authorization.
func AuthDigest(a api.Auth) api.Hash {
	text, _ := rlp.Encode(rlp.List(rlp.Number(a.Chain), rlp.Text(a.Address[:]), rlp.Small(a.Nonce))) // of at most 65 bytes: nothing to refuse
	return keccak.Sum([]byte{authMark}, text)
}

// SignAuth signs an authorization.
func SignAuth(a api.Auth, key api.U256) (api.Auth, api.Errno) {
	if a.Nonce == topNonce {
		return api.Auth{}, api.ErrAuth
	}
	s, e := ecdsa.Sign(key, AuthDigest(a))
	if e != api.OK {
		return api.Auth{}, e
	}
	a.R, a.S, a.Parity = s.R, s.S, 0
	if s.Odd {
		a.Parity = 1
	}
	return a, api.OK
}

// Authority tells who has signed an authorization.
func Authority(a api.Auth) (api.Address, api.Errno) {
	if a.Parity > 1 || a.Nonce == topNonce {
		return api.Address{}, api.ErrAuth
	}
	signer, e := ecdsa.Recover(AuthDigest(a), api.Sig{R: a.R, S: a.S, Odd: a.Parity == 1})
	if e != api.OK {
		return api.Address{}, e
	}
	return address.OfPoint(signer)
}
