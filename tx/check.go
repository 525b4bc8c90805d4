package tx

import (
	"slices"

	"waybill/api"
	"waybill/u256"
)

const (
	blobMark  = 0x01     // the first byte of every blob's hash
	topParity = 1<<8 - 1 // of an authorization: as much as a byte holds
	plainV    = 27       // a legacy V that names no chain, the point being the even one
	chainV    = 35       // twice the chain and the parity are added to it
)

// Draft tells whether a transaction's fields, its signature aside, may be.
func Draft(t api.Tx) api.Errno {
	switch {
	case t.Type < 0 || t.Type >= len(rows):
		return api.ErrTxType
	case hasStrays(t) || t.Create && t.To != api.Address{} || !areBlobs(t.BlobHashes):
		return api.ErrTxField
	case t.Chain > api.MaxChain:
		return api.ErrTxChain
	case t.Create && (t.Type == api.TypeBlob || t.Type == api.TypeSetCode):
		return api.ErrTxTo
	case t.Type == api.TypeBlob && len(t.BlobHashes) == 0 || t.Type == api.TypeSetCode && len(t.Auths) == 0:
		return api.ErrTxEmpty
	case slices.ContainsFunc(t.Auths, isParityWide):
		return api.ErrAuth
	}
	return api.OK
}

// hasStrays tells whether there is something in a field that the type does not have.
func hasStrays(t api.Tx) bool {
	for f := range fieldCount {
		if !stands(t.Type, f) && !isBlank(t, f) {
			return true
		}
	}
	return false
}

// isBlank knows the fields that not all types have. Chain is none of them: only type 0 lacks it, and there it is what V names.
func isBlank(t api.Tx, f field) bool {
	switch f {
	case fieldPrice:
		return t.Price == api.U256{}
	case fieldTip:
		return t.Tip == api.U256{}
	case fieldCap:
		return t.Cap == api.U256{}
	case fieldAccess:
		return len(t.Access) == 0
	case fieldBlobCap:
		return t.BlobCap == api.U256{}
	case fieldBlobHashes:
		return len(t.BlobHashes) == 0
	case fieldAuths:
		return len(t.Auths) == 0
	}
	return true
}

func areBlobs(hashes []api.Hash) bool {
	return len(hashes) <= api.MaxBlobs && !slices.ContainsFunc(hashes, isNoBlob)
}

func isNoBlob(h api.Hash) bool { return h[0] != blobMark }

func isParityWide(a api.Auth) bool { return a.Parity > topParity }

// Check tells whether all of a transaction's fields may be.
func Check(t api.Tx) api.Errno {
	_, e := wellFormed(t)
	return e
}

// checkV looks at the one field of the signature that can be wrong in itself.
func checkV(t api.Tx) api.Errno {
	if t.Type != api.TypeLegacy {
		if u256.Cmp(t.V, u256.From(1)) > 0 {
			return api.ErrTxSig
		}
		return api.OK
	}
	chain, _, _, e := Chain(t.V)
	if e == api.OK && chain != t.Chain {
		return api.ErrTxSig
	}
	return e
}

// Chain tells the chain that a signature's V of a legacy transaction names, whether it names one, and whether the signature's point is the odd one.
func Chain(v api.U256) (chain uint64, named bool, odd bool, e api.Errno) {
	if v == u256.From(plainV) || v == u256.From(plainV+1) {
		return 0, false, v != u256.From(plainV), api.OK
	}
	twice, borrow := u256.Sub(v, u256.From(chainV))
	chain, e = u256.Small(u256.Shr(twice, 1))
	if borrow != 0 || e != api.OK || chain == 0 || chain > api.MaxChain {
		return 0, false, false, api.ErrTxSig
	}
	return chain, true, u256.Bit(twice, 0) == 1, api.OK
}

// Same tells whether two transactions are the same in every field.
func Same(a, b api.Tx) bool {
	return a.Type == b.Type && a.Chain == b.Chain && a.Nonce == b.Nonce && a.Gas == b.Gas &&
		a.Price == b.Price && a.Tip == b.Tip && a.Cap == b.Cap && a.BlobCap == b.BlobCap &&
		a.Create == b.Create && a.To == b.To && a.Value == b.Value && slices.Equal(a.Data, b.Data) &&
		slices.EqualFunc(a.Access, b.Access, sameEntry) && slices.Equal(a.BlobHashes, b.BlobHashes) && slices.Equal(a.Auths, b.Auths) &&
		a.V == b.V && a.R == b.R && a.S == b.S
}

func sameEntry(a, b api.AccessEntry) bool {
	return a.Address == b.Address && slices.Equal(a.Keys, b.Keys)
}
