package block

import (
	"waybill/api"
	"waybill/header"
	"waybill/rlp"
	"waybill/tx"
)

// fault tells why a block is not well-formed.
func fault(b api.Block) api.Errno {
	if e := header.Check(b.Header); e != api.OK {
		return e
	}
	switch {
	case !isDrawnRight(b):
		return api.ErrBkField
	case isTooMany(b.Txs) || isTooMany(b.Uncles) || isTooMany(b.Withdrawals):
		return api.ErrBkCount
	}
	if e := firstError(b.Txs, tx.Check); e != api.OK {
		return e
	}
	return firstError(b.Uncles, header.Check)
}

// isDrawnRight tells whether a block has a list of withdrawals just if its header stands for one.
func isDrawnRight(b api.Block) bool {
	if b.Header.Tail >= api.TailWithdrawals {
		return b.Drawn
	}
	return !b.Drawn && len(b.Withdrawals) == 0
}

func firstError[T any](things []T, check func(T) api.Errno) api.Errno {
	for _, thing := range things {
		if e := check(thing); e != api.OK {
			return e
		}
	}
	return api.OK
}

// blockBytes tells the bytes of a well-formed block, so that only their length can be wrong.
func blockBytes(b api.Block) ([]byte, api.Errno) {
	head, e := header.Encode(b.Header)
	if e != api.OK {
		return nil, e
	}
	txs, e := listBytes(b.Txs, txBytes)
	if e != api.OK {
		return nil, e
	}
	uncles, e := listBytes(b.Uncles, header.Encode)
	if e != api.OK {
		return nil, e
	}
	if !b.Drawn {
		return rlp.Join(head, txs, uncles)
	}
	withdrawals, e := listBytes(b.Withdrawals, withdrawalBytes)
	if e != api.OK {
		return nil, e
	}
	return rlp.Join(head, txs, uncles, withdrawals)
}

// listBytes tells the bytes of the list of the items of things.
func listBytes[T any](things []T, itemBytes func(T) ([]byte, api.Errno)) ([]byte, api.Errno) {
	var parts [][]byte
	room := api.MaxInput
	for _, thing := range things {
		part, e := itemBytes(thing)
		if e != api.OK {
			return nil, e
		}
		room -= len(part)
		if room < 0 { // ahead of making bytes that are far too many
			return nil, api.ErrLong
		}
		parts = append(parts, part)
	}
	return rlp.Join(parts...)
}

// txBytes tells the bytes of a transaction's item: an envelope of type 0 is an item's bytes itself, each other one is a text.
func txBytes(t api.Tx) ([]byte, api.Errno) {
	envelope, e := tx.Encode(t)
	if e != api.OK || t.Type == api.TypeLegacy {
		return envelope, e
	}
	return rlp.Encode(rlp.Text(envelope))
}

func withdrawalBytes(w api.Withdrawal) ([]byte, api.Errno) {
	return rlp.Encode(rlp.List(rlp.Small(w.Index), rlp.Small(w.Validator), rlp.Text(w.Address[:]), rlp.Small(w.Amount)))
}
