package block

import (
	"slices"

	"waybill/api"
	"waybill/bloom"
	"waybill/receipt"
)

const blobGas = 131072 // of one blob

// look is something that Check looks at in a block whose bytes can be told.
type look struct {
	wrong api.Errno // what it answers, unless the block fits
	fits  func(api.Block) bool
}

func looks() []look {
	return []look{
		{api.ErrBkTxs, hasTxRoot},
		{api.ErrBkUncles, hasUncleHash},
		{api.ErrBkDraws, hasWithdrawalRoot},
		{api.ErrBkBlobs, hasBlobGas},
	}
}

// Check tells whether a block's header is that of what it holds.
func Check(b api.Block) api.Errno {
	if _, e := Encode(b); e != api.OK {
		return e
	}
	for _, l := range looks() {
		if !l.fits(b) {
			return l.wrong
		}
	}
	return api.OK
}

func hasTxRoot(b api.Block) bool {
	root, e := TxRoot(b.Txs)
	return e == api.OK && b.Header.TxRoot == root
}

func hasUncleHash(b api.Block) bool {
	digest, e := UncleHash(b.Uncles)
	return e == api.OK && b.Header.Uncles == digest
}

func hasWithdrawalRoot(b api.Block) bool {
	if b.Header.Tail < api.TailWithdrawals {
		return true
	}
	root, e := WithdrawalRoot(b.Withdrawals)
	return e == api.OK && b.Header.Withdrawals == root
}

// hasBlobGas need not ask for the tail: where that has no blob gas, BlobUsed is 0.
func hasBlobGas(b api.Block) bool { return b.Header.BlobUsed == blobGasOf(b.Txs) }

func blobGasOf(txs []api.Tx) uint64 {
	var gas uint64
	for _, t := range txs {
		gas += blobGas * uint64(len(t.BlobHashes))
	}
	return gas
}

// CheckReceipts tells whether the receipts are those that the block's header tells.
func CheckReceipts(b api.Block, receipts []api.Receipt) api.Errno {
	if e := Check(b); e != api.OK {
		return e
	}
	if e := firstError(receipts, receipt.Check); e != api.OK {
		return e
	}
	if !slices.EqualFunc(b.Txs, receipts, isOfType) || !standsFor(b.Header, receipts) {
		return api.ErrBkRcs
	}
	return api.OK
}

func isOfType(t api.Tx, r api.Receipt) bool { return t.Type == r.Type }

// standsFor tells whether a header is that of a block with these receipts.
func standsFor(h api.Header, receipts []api.Receipt) bool {
	_, e := receipt.Gas(receipts)
	if e != api.OK {
		return false
	}
	var used uint64
	var all api.Bloom
	for _, r := range receipts {
		used, all = r.Used, bloom.Union(all, r.Bloom)
	}
	root, e := ReceiptRoot(receipts)
	return e == api.OK && h.Used == used && h.Bloom == all && h.ReceiptRoot == root
}
