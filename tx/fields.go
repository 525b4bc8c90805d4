package tx

import (
	"waybill/access"
	"waybill/api"
	"waybill/rlp"
)

// field is the number of a field as it stands on the wire: Create and To are one.
type field int

const (
	fieldChain field = iota
	fieldNonce
	fieldPrice
	fieldTip
	fieldCap
	fieldGas
	fieldTo
	fieldValue
	fieldData
	fieldAccess
	fieldBlobCap
	fieldBlobHashes
	fieldAuths
	fieldV
	fieldR
	fieldS
	fieldCount // how many there are
)

const signatureFields = 3 // V, R and S end each row

// rows are the fields of each type, from 0 on, in the order in which they stand on the wire.
var rows = [5][]field{
	{fieldNonce, fieldPrice, fieldGas, fieldTo, fieldValue, fieldData, fieldV, fieldR, fieldS},
	{fieldChain, fieldNonce, fieldPrice, fieldGas, fieldTo, fieldValue, fieldData, fieldAccess, fieldV, fieldR, fieldS},
	{fieldChain, fieldNonce, fieldTip, fieldCap, fieldGas, fieldTo, fieldValue, fieldData, fieldAccess, fieldV, fieldR, fieldS},
	{fieldChain, fieldNonce, fieldTip, fieldCap, fieldGas, fieldTo, fieldValue, fieldData, fieldAccess, fieldBlobCap, fieldBlobHashes, fieldV, fieldR, fieldS},
	{fieldChain, fieldNonce, fieldTip, fieldCap, fieldGas, fieldTo, fieldValue, fieldData, fieldAccess, fieldAuths, fieldV, fieldR, fieldS},
}

// stands tells whether a field stands in a type's row.
func stands(kind int, f field) bool {
	for _, own := range rows[kind] {
		if own == f {
			return true
		}
	}
	return false
}

// itemOf makes a field's item; ErrLong: it alone would be too long.
func itemOf(t api.Tx, f field) (api.Item, api.Errno) {
	var it api.Item
	switch f {
	case fieldChain:
		it = rlp.Small(t.Chain)
	case fieldNonce:
		it = rlp.Small(t.Nonce)
	case fieldPrice:
		it = rlp.Number(t.Price)
	case fieldTip:
		it = rlp.Number(t.Tip)
	case fieldCap:
		it = rlp.Number(t.Cap)
	case fieldGas:
		it = rlp.Small(t.Gas)
	case fieldTo:
		it = receiverItem(t)
	case fieldValue:
		it = rlp.Number(t.Value)
	case fieldData:
		return dataItem(t.Data)
	case fieldAccess:
		return access.Item(t.Access)
	case fieldBlobCap:
		it = rlp.Number(t.BlobCap)
	case fieldBlobHashes:
		it = hashesItem(t.BlobHashes)
	case fieldAuths:
		return access.AuthItem(t.Auths)
	case fieldV:
		it = rlp.Number(t.V)
	case fieldR:
		it = rlp.Number(t.R)
	case fieldS:
		it = rlp.Number(t.S)
	}
	return it, api.OK
}

func receiverItem(t api.Tx) api.Item {
	if t.Create {
		return rlp.Text(nil)
	}
	return rlp.Text(t.To[:])
}

func dataItem(data []byte) (api.Item, api.Errno) {
	if len(data) > api.MaxInput { // ahead of copying what is far too long
		return api.Item{}, api.ErrLong
	}
	return rlp.Text(data), api.OK
}

func hashesItem(hashes []api.Hash) api.Item {
	items := make([]api.Item, len(hashes))
	for i, h := range hashes {
		items[i] = rlp.Text(h[:])
	}
	return rlp.List(items...)
}

// readField reads a field's item into a transaction.
func readField(t *api.Tx, f field, it api.Item) (e api.Errno) {
	switch f {
	case fieldChain:
		t.Chain, e = rlp.GetSmall(it)
	case fieldNonce:
		t.Nonce, e = rlp.GetSmall(it)
	case fieldPrice:
		t.Price, e = rlp.GetNumber(it)
	case fieldTip:
		t.Tip, e = rlp.GetNumber(it)
	case fieldCap:
		t.Cap, e = rlp.GetNumber(it)
	case fieldGas:
		t.Gas, e = rlp.GetSmall(it)
	case fieldTo:
		t.To, t.Create, e = readReceiver(it)
	case fieldValue:
		t.Value, e = rlp.GetNumber(it)
	case fieldData:
		t.Data, e = rlp.GetText(it)
	case fieldAccess:
		t.Access, e = access.Parse(it)
	case fieldBlobCap:
		t.BlobCap, e = rlp.GetNumber(it)
	case fieldBlobHashes:
		t.BlobHashes, e = readHashes(it)
	case fieldAuths:
		t.Auths, e = access.ParseAuth(it)
	case fieldV:
		t.V, e = rlp.GetNumber(it)
	case fieldR:
		t.R, e = rlp.GetNumber(it)
	case fieldS:
		t.S, e = rlp.GetNumber(it)
	}
	return e
}

// readReceiver reads To; a text without bytes says that there is none.
func readReceiver(it api.Item) (to api.Address, create bool, e api.Errno) {
	b, e := rlp.GetText(it)
	switch {
	case e != api.OK:
		return api.Address{}, false, e
	case len(b) == 0:
		return api.Address{}, true, api.OK
	case len(b) != len(to):
		return api.Address{}, false, api.ErrRlpWide
	}
	return api.Address(b), false, api.OK
}

func readHashes(it api.Item) ([]api.Hash, api.Errno) {
	if !it.List {
		return nil, api.ErrRlpKind
	}
	var hashes []api.Hash
	for _, inner := range it.Items {
		b, e := rlp.GetFixed(inner, len(api.Hash{}))
		if e != api.OK {
			return nil, e
		}
		hashes = append(hashes, api.Hash(b))
	}
	return hashes, api.OK
}
