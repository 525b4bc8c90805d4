package state

import (
	"waybill/api"
	"waybill/keccak"
	"waybill/proof"
	"waybill/rlp"
)

const (
	fields   = 4  // of an entry: nonce, balance, the storage's root, the code's digest
	hashSize = 32 // bytes of the last two

	// Bytes of the longest items; a longer text is not read, as a tree it might take a hundred times its room.
	nonceMost = 9
	wordMost  = 33 // of a number, and of a hash
	entryMost = 2 + nonceMost + 3*wordMost
)

// Item tells an account's bytes in the trie.
func Item(a api.Account) ([]byte, api.Errno) {
	return rlp.Encode(rlp.List(rlp.Small(a.Nonce), rlp.Number(a.Balance), rlp.Text(a.Storage[:]), rlp.Text(a.Code[:])))
}

// Parse reads an account's bytes in the trie.
func Parse(data []byte) (api.Account, api.Errno) {
	switch {
	case len(data) > api.MaxInput:
		return api.Account{}, api.ErrLong
	case len(data) > entryMost:
		return api.Account{}, api.ErrStForm
	}
	it, e := rlp.Decode(data)
	if e != api.OK || len(it.Items) != fields {
		return api.Account{}, api.ErrStForm
	}
	nonce, e1 := rlp.GetSmall(it.Items[0])
	balance, e2 := rlp.GetNumber(it.Items[1])
	storage, e3 := rlp.GetFixed(it.Items[2], hashSize)
	code, e4 := rlp.GetFixed(it.Items[3], hashSize)
	if e1 != api.OK || e2 != api.OK || e3 != api.OK || e4 != api.OK {
		return api.Account{}, api.ErrStForm
	}
	return api.Account{Nonce: nonce, Balance: balance, Storage: api.Hash(storage), Code: api.Hash(code)}, api.OK
}

// Show tells the account that nodes show under a root, and whether there is one.
func Show(root api.Hash, a api.Address, nodes [][]byte) (api.Account, bool, api.Errno) {
	key := keccak.Sum(a[:])
	entry, there, e := proof.Verify(root, key[:], nodes)
	if e != api.OK || !there {
		return api.Account{}, false, e
	}
	shown, e := Parse(entry)
	return shown, e == api.OK, e
}

// ShowStorage tells the number that nodes show under a storage's root.
func ShowStorage(root api.Hash, key api.Hash, nodes [][]byte) (api.U256, api.Errno) {
	digest := keccak.Sum(key[:])
	number, there, e := proof.Verify(root, digest[:], nodes)
	if e != api.OK || !there {
		return api.U256{}, e
	}
	return parseNumber(number)
}

// parseNumber reads the bytes of a number in a storage's trie. One that is 0 does not stand there.
func parseNumber(data []byte) (api.U256, api.Errno) {
	if len(data) > wordMost {
		return api.U256{}, api.ErrStForm
	}
	it, e := rlp.Decode(data)
	if e != api.OK {
		return api.U256{}, api.ErrStForm
	}
	v, e := rlp.GetNumber(it)
	if e != api.OK || v == (api.U256{}) {
		return api.U256{}, api.ErrStForm
	}
	return v, api.OK
}
