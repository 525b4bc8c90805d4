package block

import (
	"bytes"
	"slices"

	"waybill/api"
)

// copyBlock tells a block again, in memory of its own throughout.
func copyBlock(b api.Block) api.Block {
	b.Header = copyHeader(b.Header)
	b.Txs = copies(b.Txs, copyTx)
	b.Uncles = copies(b.Uncles, copyHeader)
	b.Withdrawals = slices.Clone(b.Withdrawals)
	return b
}

func copies[T any](things []T, copyOne func(T) T) []T {
	var all []T
	for _, thing := range things {
		all = append(all, copyOne(thing))
	}
	return all
}

func copyHeader(h api.Header) api.Header {
	h.Extra = bytes.Clone(h.Extra)
	return h
}

func copyTx(t api.Tx) api.Tx {
	t.Data = bytes.Clone(t.Data)
	t.Access = copies(t.Access, copyEntry)
	t.BlobHashes = slices.Clone(t.BlobHashes)
	t.Auths = slices.Clone(t.Auths)
	return t
}

func copyEntry(entry api.AccessEntry) api.AccessEntry {
	entry.Keys = slices.Clone(entry.Keys)
	return entry
}
