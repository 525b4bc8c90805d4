package trie

import (
	"waybill/api"
	"waybill/keccak"
	"waybill/rlp"
)

// Root tells the root's hash of a trie of these pairs.
func Root(pairs []api.Pair) (api.Hash, api.Errno) {
	t := New()
	for _, pair := range pairs {
		if e := t.Put(pair.Key, pair.Value); e != api.OK {
			return api.Hash{}, e
		}
	}
	if t.Len() < len(pairs) { // asked last: a pair that may not be counts ahead of a key that stands twice
		return api.Hash{}, api.ErrTrieOrder
	}
	return t.Root(), api.OK
}

// ListRoot tells the root's hash of a trie of these texts, each under its place in the list.
func ListRoot(items [][]byte) (api.Hash, api.Errno) {
	if len(items) >= api.MaxList {
		return api.Hash{}, api.ErrArg
	}
	pairs := make([]api.Pair, len(items))
	for i, item := range items {
		place, _ := rlp.Encode(rlp.Small(uint64(i))) // goes well: a number's bytes are few
		pairs[i] = api.Pair{Key: place, Value: item}
	}
	return Root(pairs)
}

// Empty is the root's hash of a trie without values.
func Empty() api.Hash { return keccak.Sum(bytesOf(nil)) }
