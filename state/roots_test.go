package state_test

import (
	"math/big"
	"slices"
	"testing"

	"waybill/api"
	"waybill/chance"
	"waybill/header"
	"waybill/keccak"
	"waybill/state"
	"waybill/trie"
)

// P21.9, P21.10: the chapter's first example.
func TestEmptyRoot(t *testing.T) {
	s := state.New()
	if s.Root() != hashOf(emptyRoot) || s.Len() != 0 || len(s.Prove(one)) != 0 || s.StorageRoot(one) != hashOf(emptyRoot) || len(s.ProveStorage(one, cell)) != 0 {
		t.Errorf("of nothing: %x, %x", s.Root(), s.Prove(one))
	}
	if entry, ok, e := state.Show(hashOf(emptyRoot), one, nil); entry != (api.Account{}) || ok || e != api.OK {
		t.Errorf("Show of nothing = %+v, %t, %d", entry, ok, e)
	}
	if v, e := state.ShowStorage(hashOf(emptyRoot), cell, nil); v != small(0) || e != api.OK {
		t.Errorf("ShowStorage of nothing = %v, %d", v, e)
	}
	s.Mint(two, small(1))
	if s.StorageRoot(one) != hashOf(emptyRoot) || s.StorageRoot(two) != hashOf(emptyRoot) {
		t.Error("the root of a storage without numbers")
	}
}

// P21.9: the states with which two test networks began, written down from memory with their roots; these would show a slip.
func TestNetworkRoots(t *testing.T) {
	for _, x := range []struct {
		root    string
		amounts map[string]string
	}{
		{"5d6cded585e73c4e322c30c2f782a336316f17dd85a4863b9d838d2d4b8b3008", map[string]string{ // Goerli
			"4c2ae482593505f0163cdefc073e81c63cda4107": "152d02c7e14af6800000", "a8e8f14732658e4b51e8711931053a8a69baf2b1": "152d02c7e14af6800000",
			"d9a5179f091d85051d3c982785efd1455cec8699": "84595161401484a000000", "e0a2bd4258d2768837baa26a28fe71dc079f84c7": "4a47e3c12448f4ad000000"}},
		{"53580584816f617295ea26c0e17641e0120cab2f0a8ffb53a866fd53aa8e8c2d", map[string]string{ // Rinkeby
			"31b98d14007bdee637298086988a0bbd31184523": "200000000000000000000000000000000000000000000000000000000000000"}},
	} {
		s := state.New()
		for i := range 256 {
			s.Mint(api.Address{19: byte(i)}, small(1))
		}
		for a, amount := range x.amounts {
			v, _ := new(big.Int).SetString(amount, 16)
			s.Mint(addressOf(a), numberOf(v))
		}
		if got := s.Root(); got != hashOf(x.root) || s.Len() != 256+len(x.amounts) {
			t.Errorf("Root = %x, want %s", got, x.root)
		}
	}
}

// P21.9: what another program's tests begin a chain with, an account with a balance and a cell: the hash of the header that bears its root was known ahead (from memory).
func TestKnownCell(t *testing.T) {
	s := state.New()
	s.Mint(api.Address{1}, small(1))
	s.Store(api.Address{1}, api.Hash{1}, api.U256{3: 1 << 56})
	first := api.Header{Uncles: keccak.Sum([]byte{0xc0}), State: s.Root(), TxRoot: hashOf(emptyRoot), ReceiptRoot: hashOf(emptyRoot), Difficulty: small(131072), Limit: 4712388}
	if got, e := header.Hash(first); got != hashOf("89c99d90b79719238d2645c7642f2c9295246e80775b38cfd162b696817fbd50") || e != api.OK {
		t.Errorf("the header's hash = %x, %d", got, e)
	}
}

// P21.9: three accounts of another program's tests, one of them code alone. Of the root the first digits and the code's digest were known ahead (from memory); the rest is this program's answer, kept so that it stays.
func TestKnownCode(t *testing.T) {
	s, code := state.New(), []byte{3, 3, 3, 3, 3, 3, 3}
	s.Mint(api.Address{19: 1}, small(22))
	s.SetCode(api.Address{18: 1, 19: 2}, code)
	s.Mint(api.Address{19: 2}, small(44))
	if got := s.Root(); got != hashOf("71edff0130dd2385947095001c73d9e28d862fc286fca2b922ca6f6f3cddfdd2") {
		t.Errorf("Root = %x", got)
	}
	if entry, ok := s.Account(api.Address{18: 1, 19: 2}); !ok || entry.Code != hashOf("87874902497a5bb968da31a2998d8f22e949d1ef6214bcdedd8bae24cca4b9e3") || entry.Storage != hashOf(emptyRoot) {
		t.Errorf("Account = %+v, %t", entry, ok)
	}
}

// shuffled tells a list in some order.
func shuffled[T any](row *chance.Row, list []T) []T {
	list = slices.Clone(list)
	for i := range list {
		at := row.Below(i + 1)
		list[i], list[at] = list[at], list[i]
	}
	return list
}

// P21.9, P0.16: states that have the same are the same in all that is seen, in whatever order it came there, whatever was put over, destroyed and brought back.
func TestAnyOrder(t *testing.T) {
	row := chance.Row(2140)
	for range 20 {
		var last []step // what stays of each part of each address
		for _, a := range someAddresses() {
			last = append(last, step{kind: "Mint", a: a, v: anyAmount(&row)}, step{kind: "SetNonce", a: a, nonce: row.Next() >> row.Below(64)}, step{kind: "SetCode", a: a, code: string(row.Text(row.Below(40)))})
			for _, key := range someKeys() {
				last = append(last, step{kind: "Store", a: a, key: key, v: anyAmount(&row)})
			}
		}
		s, m := filled(t, last...)
		checkState(t, s, m, nil, someKeys())
		for range 5 {
			twin, _ := filled(t)
			for range 50 {
				anyChange(&row).answered(twin)
			}
			for _, a := range shuffled(&row, someAddresses()) {
				twin.Destroy(a)
			}
			for _, o := range shuffled(&row, last) {
				twin.Snapshot()
				anyChange(&row).answered(twin)
				twin.Revert(0)
				o.answered(twin)
			}
			checkState(t, twin, m, someAddresses(), someKeys())
		}
	}
}

// P21.9: the root hangs on each part of each account.
func TestRootHangs(t *testing.T) {
	begin := []step{{kind: "Mint", a: one, v: small(1)}, {kind: "Store", a: one, key: cell, v: small(1)}, {kind: "SetCode", a: two, code: "x"}, {kind: "SetNonce", a: two, nonce: 5}}
	s, _ := filled(t, begin...)
	roots := []api.Hash{s.Root()}
	for _, o := range []step{
		{kind: "Mint", a: one, v: small(1)}, {kind: "Mint", a: two, v: small(1)}, {kind: "Mint", a: three, v: small(1)}, {kind: "Transfer", a: one, b: two, v: small(1)}, {kind: "Burn", a: one, v: small(1)},
		{kind: "Bump", a: one}, {kind: "Bump", a: two}, {kind: "SetNonce", a: two}, {kind: "SetCode", a: one, code: "x"}, {kind: "SetCode", a: two, code: "xx"}, {kind: "SetCode", a: two},
		{kind: "Store", a: one, key: cell, v: small(2)}, {kind: "Store", a: one, key: cell}, {kind: "Store", a: one, key: other, v: small(1)}, {kind: "Store", a: two, key: cell, v: small(1)}, {kind: "Destroy", a: one}, {kind: "Destroy", a: two},
	} {
		s, m := filled(t, append(begin, o)...)
		root := s.Root()
		if slices.Contains(roots, root) || root != m.trie().Root() {
			t.Errorf("%v: the root %x is that of another state, or not the trie's", o, root)
		}
		roots = append(roots, root)
	}
}

// P21.9, P21.10, P21.14: many accounts with many cells, so that the ways to them are long; those that are not there are shown too.
func TestMany(t *testing.T) {
	row := chance.Row(2141)
	s, m := filled(t)
	var addresses []api.Address
	var keys []api.Hash
	for i := range 400 {
		a := api.Address(row.Text(20))
		both(t, s, m, step{kind: "Mint", a: a, v: row.Number()})
		both(t, s, m, step{kind: "SetNonce", a: a, nonce: uint64(i % 3)})
		if i%7 == 0 {
			addresses = append(addresses, a)
		}
	}
	for range 120 {
		key := api.Hash(row.Text(32))
		keys = append(keys, key)
		both(t, s, m, step{kind: "Store", a: addresses[0], key: key, v: row.Number()})
	}
	addresses = append(addresses, someAddresses()...)
	checkMap(t, s, m, addresses, keys)
	whole, root := m.trie(), s.Root()
	if root != whole.Root() {
		t.Fatalf("Root = %x", root)
	}
	deepest := 0
	for _, a := range addresses {
		digest, nodes := keccak.Sum(a[:]), s.Prove(a)
		want, is := s.Account(a)
		deepest = max(deepest, len(nodes))
		if !sameTexts(nodes, whole.Nodes(digest[:])) {
			t.Errorf("Prove(%x)", a)
		}
		if got, ok, e := state.Show(root, a, nodes); got != want || ok != is || e != api.OK {
			t.Errorf("Show(%x) = %+v, %t, %d", a, got, ok, e)
		}
	}
	if deepest < 3 {
		t.Errorf("%d nodes at the most", deepest)
	}
	checkStorage(t, s, addresses[0], m.at(addresses[0]), append(keys[:40], someKeys()...))
	checkStorage(t, s, addresses[1], m.at(addresses[1]), keys[:3])
}

// P21.9, P0.12: a great state's root is that of the pairs.
func TestGreatRoot(t *testing.T) {
	row := chance.Row(2142)
	s := state.New()
	var pairs []api.Pair
	for i := range 20000 {
		a := api.Address(row.Text(20))
		s.SetNonce(a, uint64(i+1))
		digest := keccak.Sum(a[:])
		pairs = append(pairs, api.Pair{Key: digest[:], Value: modelItem(api.Account{Nonce: uint64(i + 1), Storage: hashOf(emptyRoot), Code: hashOf(emptyCode)})})
	}
	want, e := trie.Root(pairs)
	if got := s.Root(); got != want || e != api.OK || s.Len() != len(pairs) {
		t.Errorf("Root = %x, want %x, %d", got, want, e)
	}
}
