package signing

import (
	"waybill/api"
	"waybill/ecdsa"
	"waybill/tx"
	"waybill/u256"
)

const (
	plainV = 27 // of a legacy transaction that is for any chain; the parity is added to it
	chainV = 35 // of one that is for one chain alone; twice the chain and the parity are added to it
)

// Signed tells the transaction with a signature in its place.
func Signed(t api.Tx, sig api.Sig) (api.Tx, api.Errno) {
	if _, e := Payload(t); e != api.OK {
		return api.Tx{}, e
	}
	if e := ecdsa.Check(sig); e != api.OK {
		return api.Tx{}, e
	}
	t.V, t.R, t.S = standing(t, sig.Odd), sig.R, sig.S
	if e := tx.Check(t); e != api.OK { // only its length can be wrong now
		return api.Tx{}, e
	}
	return apart(t), api.OK
}

// standing tells the V that stands for a signature's parity.
func standing(t api.Tx, odd bool) api.U256 {
	v := u256.From(0)
	if odd {
		v = u256.From(1)
	}
	switch {
	case t.Type != api.TypeLegacy:
		return v
	case !isBound(t):
		return sum(v, u256.From(plainV))
	}
	return sum(v, sum(u256.From(chainV), u256.Shl(u256.From(t.Chain), 1)))
}

// sum adds numbers of at most some 65 bits: nothing is carried beyond 256.
func sum(x, y api.U256) api.U256 {
	s, _ := u256.Add(x, y)
	return s
}

// apart tells a transaction again, its lists in memory of their own.
func apart(t api.Tx) api.Tx {
	t.Data, t.BlobHashes, t.Auths = cloned(t.Data), cloned(t.BlobHashes), cloned(t.Auths)
	t.Access = cloned(t.Access)
	for i, entry := range t.Access {
		t.Access[i].Keys = cloned(entry.Keys)
	}
	return t
}

// cloned tells a list in new memory; of one without elements nothing is kept, the room behind its end neither.
func cloned[T any](list []T) []T { return append([]T(nil), list...) }

// Signature tells the signature that a transaction bears.
func Signature(t api.Tx) (api.Sig, api.Errno) {
	if e := tx.Draft(t); e != api.OK {
		return api.Sig{}, e
	}
	if isUnsigned(t) {
		return api.Sig{}, api.ErrUnsigned
	}
	if e := tx.Check(t); e != api.OK {
		return api.Sig{}, e
	}
	sig := api.Sig{R: t.R, S: t.S, Odd: isOdd(t)}
	if e := ecdsa.Check(sig); e != api.OK {
		return api.Sig{}, e
	}
	return sig, api.OK
}

func isUnsigned(t api.Tx) bool { return [3]api.U256{t.V, t.R, t.S} == [3]api.U256{} }

// isOdd tells the parity that a well-formed transaction's V stands for.
func isOdd(t api.Tx) bool {
	if t.Type != api.TypeLegacy {
		return t.V == u256.From(1)
	}
	_, _, odd, _ := tx.Chain(t.V) // can't fail: Check has taken it
	return odd
}
