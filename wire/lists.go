package wire

import (
	"waybill/api"
	"waybill/rlp"
	"waybill/trie"
)

const firstList = 0xc0 // with the head of a list begins the envelope of a thing of type 0, which stands in no text

// DecodeTxs reads the transactions of a list as it stands in a block's body.
func DecodeTxs(b []byte) ([]api.Tx, api.Errno) { return readList(b, DecodeTx, api.ErrTxForm) }

// EncodeTxs tells the bytes of such a list.
func EncodeTxs(l []api.Tx) ([]byte, api.Errno) { return listBytes(l, EncodeTx) }

// DecodeReceipts reads the receipts of a list as it stands in a message.
func DecodeReceipts(b []byte) ([]api.Receipt, api.Errno) {
	return readList(b, DecodeReceipt, api.ErrRcType)
}

// EncodeReceipts tells the bytes of such a list.
func EncodeReceipts(l []api.Receipt) ([]byte, api.Errno) { return listBytes(l, EncodeReceipt) }

// TxRoot tells the root of a list of transactions.
func TxRoot(l []api.Tx) (api.Hash, api.Errno) { return rootOf(l, EncodeTx) }

// ReceiptRoot tells the root of a list of receipts.
func ReceiptRoot(l []api.Receipt) (api.Hash, api.Errno) { return rootOf(l, EncodeReceipt) }

// readList reads the things of a list of items, each by its envelope; wrong: what an item is that can hold none.
func readList[T any](b []byte, decode func([]byte) (T, api.Errno), wrong api.Errno) ([]T, api.Errno) {
	list, e := rlp.Decode(b)
	switch {
	case e != api.OK:
		return nil, e
	case !list.List:
		return nil, api.ErrRlpKind
	case isTooMany(list.Items):
		return nil, api.ErrBkCount
	}
	var all []T
	for _, it := range list.Items {
		envelope, e := envelopeIn(it, wrong)
		if e != api.OK {
			return nil, e
		}
		thing, e := decode(envelope)
		if e != api.OK {
			return nil, e
		}
		all = append(all, thing)
	}
	return all, api.OK
}

// envelopeIn tells the envelope that stands in an item.
func envelopeIn(it api.Item, wrong api.Errno) ([]byte, api.Errno) {
	if it.List {
		return rlp.Encode(it)
	}
	if len(it.Data) == 0 || it.Data[0] >= firstList {
		return nil, wrong
	}
	return it.Data, api.OK
}

// listBytes tells the bytes of the list of the items of things.
func listBytes[T any](things []T, encode func(T) ([]byte, api.Errno)) ([]byte, api.Errno) {
	parts, e := envelopes(things, encode)
	if e != api.OK {
		return nil, e
	}
	for i, envelope := range parts {
		if parts[i], e = itemBytes(envelope); e != api.OK {
			return nil, e
		}
	}
	return rlp.Join(parts...)
}

// itemBytes tells the bytes of the item in which an envelope stands: one of type 0 is a list itself, each other one is a text.
func itemBytes(envelope []byte) ([]byte, api.Errno) {
	if envelope[0] >= firstList {
		return envelope, api.OK
	}
	return rlp.Encode(rlp.Text(envelope))
}

// rootOf tells the root of a list of things.
func rootOf[T any](things []T, encode func(T) ([]byte, api.Errno)) (api.Hash, api.Errno) {
	all, e := envelopes(things, encode)
	if e != api.OK {
		return api.Hash{}, e
	}
	return trie.ListRoot(all)
}

// envelopes tells the envelopes of a list of things. What is wrong in one of them counts ahead of their length together, so all are made, and those beyond it not kept.
func envelopes[T any](things []T, encode func(T) ([]byte, api.Errno)) ([][]byte, api.Errno) {
	if isTooMany(things) {
		return nil, api.ErrBkCount
	}
	var all [][]byte
	size := 0
	for _, thing := range things {
		envelope, e := encode(thing)
		if e != api.OK {
			return nil, e
		}
		size += len(envelope)
		if size <= api.MaxInput {
			all = append(all, envelope)
		}
	}
	if size > api.MaxInput {
		return nil, api.ErrLong
	}
	return all, api.OK
}

// isTooMany tells whether there are more things than a list may have.
func isTooMany[T any](things []T) bool { return len(things) >= api.MaxList }
