package block

import (
	"waybill/api"
	"waybill/header"
	"waybill/rlp"
	"waybill/tx"
)

const (
	plainFields      = 3 // of a block without a list of withdrawals
	drawnFields      = 4 // of one with it
	withdrawalFields = 4
	firstList        = 0xc0 // with the head of a list begins the envelope of a transaction of type 0, which stands in no text
)

// readBlock reads the items of a block, of which there are as many as one has.
func readBlock(items []api.Item) (b api.Block, e api.Errno) {
	if b.Header, e = header.Parse(items[0]); e != api.OK {
		return api.Block{}, e
	}
	if b.Txs, e = readList(items[1], readTx); e != api.OK {
		return api.Block{}, e
	}
	if b.Uncles, e = readList(items[2], header.Parse); e != api.OK {
		return api.Block{}, e
	}
	if len(items) == drawnFields {
		b.Drawn = true
		if b.Withdrawals, e = readList(items[3], readWithdrawal); e != api.OK {
			return api.Block{}, e
		}
	}
	if !isDrawnRight(b) {
		return api.Block{}, api.ErrBkField
	}
	return b, api.OK
}

// readList reads all items of a list by one function.
func readList[T any](it api.Item, read func(api.Item) (T, api.Errno)) ([]T, api.Errno) {
	switch {
	case !it.List:
		return nil, api.ErrBkField
	case isTooMany(it.Items):
		return nil, api.ErrBkCount
	}
	var all []T
	for _, inner := range it.Items {
		thing, e := read(inner)
		if e != api.OK {
			return nil, e
		}
		all = append(all, thing)
	}
	return all, api.OK
}

func readTx(it api.Item) (api.Tx, api.Errno) {
	envelope := it.Data
	if it.List {
		envelope, _ = rlp.Encode(it) // goes well: the item was read out of bytes
	} else if len(envelope) == 0 || envelope[0] >= firstList {
		return api.Tx{}, api.ErrBkField
	}
	return tx.Decode(envelope)
}

func readWithdrawal(it api.Item) (api.Withdrawal, api.Errno) {
	if !it.List || len(it.Items) != withdrawalFields {
		return api.Withdrawal{}, api.ErrBkField
	}
	index, noIndex := rlp.GetSmall(it.Items[0])
	validator, noValidator := rlp.GetSmall(it.Items[1])
	address, noAddress := rlp.GetFixed(it.Items[2], len(api.Address{}))
	amount, noAmount := rlp.GetSmall(it.Items[3])
	if noIndex != api.OK || noValidator != api.OK || noAddress != api.OK || noAmount != api.OK {
		return api.Withdrawal{}, api.ErrBkField
	}
	return api.Withdrawal{Index: index, Validator: validator, Address: api.Address(address), Amount: amount}, api.OK
}
