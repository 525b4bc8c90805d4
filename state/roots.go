package state

import (
	"bytes"
	"maps"
	"slices"

	"waybill/api"
	"waybill/keccak"
	"waybill/rlp"
	"waybill/trie"
)

// Root tells the root's hash of the trie of accounts.
func (s *State) Root() api.Hash {
	if s == nil {
		return api.Hash{}
	}
	return s.accountTrie().Root()
}

// StorageRoot tells the root's hash of the trie of an account's storage.
func (s *State) StorageRoot(a api.Address) api.Hash {
	if s == nil {
		return api.Hash{}
	}
	return s.at(a).storageTrie().Root()
}

// Prove tells the nodes that show an account, or that there is none.
func (s *State) Prove(a api.Address) [][]byte {
	key := keccak.Sum(a[:])
	return s.accountTrie().Nodes(key[:])
}

// ProveStorage tells the nodes that show what stands in an account's storage, or that nothing does.
func (s *State) ProveStorage(a api.Address, key api.Hash) [][]byte {
	digest := keccak.Sum(key[:])
	return s.at(a).storageTrie().Nodes(digest[:])
}

// accountTrie tells the state's trie. The addresses rise: of several with one Keccak the last one stays, the greatest.
func (s *State) accountTrie() *trie.Trie {
	t := trie.New()
	for a := range s.Each() {
		key := keccak.Sum(a[:])
		entry, _ := Item(s.at(a).entry()) // goes well always
		t.Put(key[:], entry)
	}
	return t
}

// storageTrie tells the trie of an account's storage. Its keys rise, as the state's addresses do.
func (x account) storageTrie() *trie.Trie {
	t := trie.New()
	rising := slices.SortedFunc(maps.Keys(x.cells), func(a, b api.Hash) int { return bytes.Compare(a[:], b[:]) })
	for _, key := range rising {
		digest := keccak.Sum(key[:])
		number, _ := rlp.Encode(rlp.Number(x.cells[key])) // goes well: a number's bytes are few
		t.Put(digest[:], number)
	}
	return t
}

// entry tells an account as it stands in the state's trie.
func (x account) entry() api.Account {
	return api.Account{Nonce: x.nonce, Balance: x.balance, Storage: x.storageTrie().Root(), Code: keccak.Sum(x.code)}
}
