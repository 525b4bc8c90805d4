package block

import (
	"waybill/api"
	"waybill/header"
	"waybill/keccak"
	"waybill/receipt"
	"waybill/rlp"
	"waybill/trie"
	"waybill/tx"
)

// TxRoot tells the root of a list of transactions.
func TxRoot(txs []api.Tx) (api.Hash, api.Errno) { return rootOf(txs, tx.Encode, trie.ListRoot) }

// ReceiptRoot tells the root of a list of receipts.
func ReceiptRoot(receipts []api.Receipt) (api.Hash, api.Errno) {
	return rootOf(receipts, receipt.Encode, trie.ListRoot)
}

// WithdrawalRoot tells the root of a list of withdrawals.
func WithdrawalRoot(withdrawals []api.Withdrawal) (api.Hash, api.Errno) {
	return rootOf(withdrawals, withdrawalBytes, trie.ListRoot)
}

// UncleHash tells the digest of a list of headers.
func UncleHash(uncles []api.Header) (api.Hash, api.Errno) {
	return rootOf(uncles, header.Encode, listDigest)
}

// rootOf tells the hash that stands for a list of things: what sum makes of their envelopes.
func rootOf[T any](things []T, envelope func(T) ([]byte, api.Errno), sum func([][]byte) (api.Hash, api.Errno)) (api.Hash, api.Errno) {
	if isTooMany(things) {
		return api.Hash{}, api.ErrBkCount
	}
	envelopes := make([][]byte, len(things))
	for i, thing := range things {
		b, e := envelope(thing)
		if e != api.OK {
			return api.Hash{}, e
		}
		envelopes[i] = b
	}
	return sum(envelopes)
}

// isTooMany tells whether there are more things of a kind than a block may have.
func isTooMany[T any](things []T) bool { return len(things) >= api.MaxList }

// listDigest tells the digest of the list of items whose bytes are given.
func listDigest(parts [][]byte) (api.Hash, api.Errno) {
	b, e := rlp.Join(parts...)
	if e != api.OK {
		return api.Hash{}, e
	}
	return keccak.Sum(b), api.OK
}
