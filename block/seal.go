package block

import "waybill/api"

// Seal fills in a header's roots and sums.
func Seal(b api.Block) (api.Block, api.Errno) {
	if e := fault(b); e != api.OK {
		return api.Block{}, e
	}
	var e api.Errno
	if b.Header, e = sealed(b); e != api.OK {
		return api.Block{}, e
	}
	if e := Check(b); e != api.OK {
		return api.Block{}, e
	}
	return copyBlock(b), api.OK
}

// sealed tells a block's header with the roots and sums of what the block holds, as far as its tail has them.
func sealed(b api.Block) (api.Header, api.Errno) {
	h := b.Header
	var e api.Errno
	if h.TxRoot, e = TxRoot(b.Txs); e != api.OK {
		return api.Header{}, e
	}
	if h.Uncles, e = UncleHash(b.Uncles); e != api.OK {
		return api.Header{}, e
	}
	if h.Tail >= api.TailWithdrawals {
		if h.Withdrawals, e = WithdrawalRoot(b.Withdrawals); e != api.OK {
			return api.Header{}, e
		}
	}
	if h.Tail >= api.TailBlobs {
		h.BlobUsed = blobGasOf(b.Txs)
	}
	return h, api.OK
}
