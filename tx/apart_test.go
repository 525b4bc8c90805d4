package tx_test

import (
	"bytes"
	"slices"
	"sync"
	"testing"

	"waybill/api"
	"waybill/chance"
	"waybill/tx"
)

// roomy tells a transaction again, its lists with room beyond their ends, in which something stands.
func roomy(row *chance.Row, x api.Tx) api.Tx {
	data, _ := row.Roomy(len(x.Data))
	copy(data, x.Data)
	x.Data = data
	x.BlobHashes = append(slices.Clone(x.BlobHashes), anyKey(row), anyKey(row))[:len(x.BlobHashes)]
	x.Auths = append(slices.Clone(x.Auths), anyAuth(row), anyAuth(row))[:len(x.Auths)]
	entries := append(slices.Clone(x.Access), api.AccessEntry{Keys: []api.Hash{anyKey(row)}})
	for i, entry := range entries {
		entries[i].Keys = append(slices.Clone(entry.Keys), anyKey(row))[:len(entry.Keys)]
	}
	x.Access = entries[:len(x.Access)]
	return x
}

// whole tells a transaction with all that stands in the room beyond its lists' ends, in memory of its own.
func whole(x api.Tx) api.Tx {
	x.Data, x.BlobHashes, x.Auths = slices.Clone(x.Data[:cap(x.Data)]), slices.Clone(x.BlobHashes[:cap(x.BlobHashes)]), slices.Clone(x.Auths[:cap(x.Auths)])
	x.Access = slices.Clone(x.Access[:cap(x.Access)])
	for i, entry := range x.Access {
		x.Access[i].Keys = slices.Clone(entry.Keys[:cap(entry.Keys)])
	}
	return x
}

// spoil paints all that a transaction's lists hold, the room beyond their ends too.
func spoil(x api.Tx) {
	for _, entry := range x.Access[:cap(x.Access)] {
		paint(entry.Keys[:cap(entry.Keys)], api.Hash{0xee})
	}
	paint(x.Access[:cap(x.Access)], api.AccessEntry{Address: api.Address{0xee}})
	paint(x.Data[:cap(x.Data)], 0xee)
	paint(x.BlobHashes[:cap(x.BlobHashes)], api.Hash{0xee})
	paint(x.Auths[:cap(x.Auths)], api.Auth{Nonce: 0xee})
}

func paint[T any](all []T, colour T) {
	for i := range all {
		all[i] = colour
	}
}

func isPainted[T any](all []T, is func(T) bool) bool {
	return !slices.ContainsFunc(all, func(one T) bool { return !is(one) })
}

// areApart paints each text and each list of items in a colour of its own, with the room beyond its end, and tells whether each one keeps it. The items are spoilt then.
func areApart(items []api.Item) bool {
	var texts [][]byte
	lists := [][]api.Item{items[:cap(items)]}
	var walk func(it api.Item)
	walk = func(it api.Item) {
		texts, lists = append(texts, it.Data[:cap(it.Data)]), append(lists, it.Items[:cap(it.Items)])
		for _, inner := range it.Items {
			walk(inner)
		}
	}
	for _, it := range items {
		walk(it)
	}
	for i := range texts {
		paint(texts[i], byte(i))
	}
	for i := range lists {
		paint(lists[i], small(uint64(i)))
	}
	for i := range texts {
		if !isPainted(texts[i], func(b byte) bool { return b == byte(i) }) {
			return false
		}
	}
	for i := range lists {
		if !isPainted(lists[i], func(it api.Item) bool { return same(it, small(uint64(i))) }) {
			return false
		}
	}
	return true
}

// areKeysApart does it with the keys of an access list.
func areKeysApart(entries []api.AccessEntry) bool {
	for i, entry := range entries {
		paint(entry.Keys[:cap(entry.Keys)], api.Hash{byte(i)})
	}
	for i, entry := range entries {
		if !isPainted(entry.Keys[:cap(entry.Keys)], func(key api.Hash) bool { return key == api.Hash{byte(i)} }) {
			return false
		}
	}
	return true
}

// P15.9, P0.3: no call writes into a transaction; what Fields and Encode answer shares nothing with it, nor with other answers.
func TestEncodeApart(t *testing.T) {
	row := chance.Row(1550)
	for n := range 400 {
		bare := anyTx(&row, n%kinds)
		if len(bare.Access) > 1 {
			bare.Access[0].Keys = bare.Access[1].Keys
		}
		x := roomy(&row, bare)
		if len(x.Access) > 1 {
			x.Access[0].Keys = x.Access[1].Keys // one list of keys in two entries
		}
		before := whole(x)
		want := modelTree(bare)
		first, e := tx.Fields(x)
		second, f := tx.Fields(x)
		b, g := tx.Encode(x)
		c, h := tx.Encode(x)
		tx.Draft(x)
		tx.Check(x)
		tx.Hash(x)
		tx.Same(x, x)
		if e != api.OK || f != api.OK || g != api.OK || h != api.OK || !modelSame(whole(x), before) {
			t.Fatalf("%d, %d, %d, %d, or the transaction was written to", e, f, g, h)
		}
		paint(b[:cap(b)], 0xee)
		if !areApart(first) || !modelSame(whole(x), before) {
			t.Fatal("the answers share memory with each other, or with the transaction")
		}
		spoil(x)
		if !sameItems(second, want.Items[:len(want.Items)-3]) || !bytes.Equal(c, sealed(bare.Type, want)) {
			t.Fatal("the answers change with the transaction, or with other answers")
		}
	}
}

// P15.9, P0.3: what is refused is not written to either.
func TestRefusedApart(t *testing.T) {
	row := chance.Row(1551)
	for kind := range kinds {
		all := faults(kind)
		for _, one := range all[:len(all)-1] {
			x := roomy(&row, anyTx(&row, kind))
			one.put(&x)
			before := whole(x)
			tx.Draft(x)
			tx.Fields(x)
			tx.Hash(x)
			if _, e := tx.Encode(x); e != one.e || tx.Check(x) != one.e || !modelSame(whole(x), before) {
				t.Errorf("type %d: %d, or the transaction was written to", kind, e)
			}
		}
	}
	for range 2000 {
		kind := row.Below(kinds)
		data := sealed(kind, spoilt(&row, modelTree(anyTx(&row, kind))))
		b, memory := row.Roomy(len(data))
		copy(b, data)
		before := slices.Clone(memory)
		tx.Decode(b)
		if !bytes.Equal(memory, before) {
			t.Fatal("the bytes were written to")
		}
	}
}

// P15.9, P0.3: Decode writes nothing into the bytes; the transaction shares nothing with them, nor with another one.
func TestDecodeApart(t *testing.T) {
	row := chance.Row(1552)
	for n := range 400 {
		bare := anyTx(&row, n%kinds)
		data := sealed(bare.Type, modelTree(bare))
		b, memory := row.Roomy(len(data))
		copy(b, data)
		before := slices.Clone(memory)
		first, e := tx.Decode(b)
		second, f := tx.Decode(b)
		if e != api.OK || f != api.OK || !bytes.Equal(memory, before) {
			t.Fatalf("Decode: %d, %d, or the bytes were written to", e, f)
		}
		if !areKeysApart(first.Access) {
			t.Fatal("the keys share memory with each other")
		}
		spoil(first)
		if !bytes.Equal(memory, before) || !modelSame(second, bare) {
			t.Fatal("the transactions share memory with each other, or with the bytes")
		}
		paint(memory, 0xee)
		if !modelSame(second, bare) {
			t.Fatal("the transaction changes with the bytes")
		}
	}
}

// P0.4: nil and a list of length 0 are the same.
func TestNilAndEmpty(t *testing.T) {
	for kind := range kinds {
		x := plain(kind)
		y := cloned(x)
		y.Data = []byte{}
		if y.Access = make([]api.AccessEntry, 0, 3); kind > 0 {
			x.Access = []api.AccessEntry{{}}
			y.Access = []api.AccessEntry{{Keys: make([]api.Hash, 0, 3)}}
		}
		if kind != 3 {
			y.BlobHashes = make([]api.Hash, 0, 3)
		}
		if kind != 4 {
			y.Auths = make([]api.Auth, 0, 3)
		}
		b, e := tx.Encode(x)
		c, f := tx.Encode(y)
		if !bytes.Equal(b, c) || e != api.OK || f != api.OK || tx.Draft(y) != api.OK {
			t.Errorf("type %d, nil and empty lists: %x, %d; %x, %d", kind, b, e, c, f)
		}
	}
	for _, data := range [][]byte{nil, {}, make([]byte, 0, 5)} {
		wantError(t, data, api.ErrRlpEnd)
	}
}

// P0.6: the same again has the same answer, also while others ask at the same time.
func TestSameAgain(t *testing.T) {
	row := chance.Row(1553)
	var all []api.Tx
	for kind := range kinds {
		all = append(all, anyTx(&row, kind))
	}
	var workers sync.WaitGroup
	for first := range 8 {
		workers.Go(func() {
			for n := range 200 {
				x := all[(first+n)%kinds]
				want, _ := modelEncode(x)
				b, e := tx.Encode(x)
				y, f := tx.Decode(b)
				if !bytes.Equal(b, want) || e != api.OK || f != api.OK || !tx.Same(x, y) || tx.Check(y) != api.OK {
					t.Errorf("Encode and Decode: %d, %d", e, f)
				}
				tx.Decode(b[:len(b)-1])
			}
		})
	}
	workers.Wait()
}
