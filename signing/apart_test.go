package signing_test

import (
	"bytes"
	"slices"
	"sync"
	"testing"

	"waybill/api"
	"waybill/chance"
	"waybill/signing"
	"waybill/tx"
)

// roomy tells a transaction again, its lists with room beyond their ends, in which something stands; two entries have one list of keys, if there are two.
func roomy(row *chance.Row, x api.Tx) api.Tx {
	data, _ := row.Roomy(len(x.Data))
	copy(data, x.Data)
	x.Data = data
	x.BlobHashes = append(slices.Clone(x.BlobHashes), anyHash(row), anyHash(row))[:len(x.BlobHashes)]
	x.Auths = append(slices.Clone(x.Auths), anyAuth(row), anyAuth(row))[:len(x.Auths)]
	entries := append(slices.Clone(x.Access), api.AccessEntry{Keys: []api.Hash{anyHash(row)}})
	for i, entry := range entries {
		entries[i].Keys = append(slices.Clone(entry.Keys), anyHash(row))[:len(entry.Keys)]
	}
	x.Access = entries[:len(x.Access)]
	if len(x.Access) > 1 {
		x.Access[0].Keys = x.Access[1].Keys
	}
	return x
}

// whole tells a transaction with all that stands in the room beyond its lists' ends, in memory of its own.
func whole(x api.Tx) api.Tx {
	x.Data, x.BlobHashes, x.Auths = slices.Clone(x.Data[:cap(x.Data)]), slices.Clone(x.BlobHashes[:cap(x.BlobHashes)]), slices.Clone(x.Auths[:cap(x.Auths)])
	x.Access = slices.Clone(x.Access[:cap(x.Access)])
	for i, entry := range x.Access {
		x.Access[i].Keys = slices.Clone(entry.Keys[:cap(entry.Keys)])
	}
	return x
}

func paint[T any](all []T, colour T) {
	for i := range all[:cap(all)] {
		all[:cap(all)][i] = colour
	}
}

// spoil paints all that a transaction's lists hold, the room beyond their ends too.
func spoil(x api.Tx) {
	for _, entry := range x.Access[:cap(x.Access)] {
		paint(entry.Keys, api.Hash{0xee})
	}
	paint(x.Access, api.AccessEntry{Address: api.Address{0xee}})
	paint(x.Data, 0xee)
	paint(x.BlobHashes, api.Hash{0xee})
	paint(x.Auths, api.Auth{Nonce: 0xee})
}

// areKeysApart paints the keys of each entry in a colour of their own, with the room beyond their end, and tells whether all keep it.
func areKeysApart(entries []api.AccessEntry) bool {
	for i, entry := range entries {
		paint(entry.Keys, api.Hash{byte(i)})
	}
	for i, entry := range entries {
		if slices.ContainsFunc(entry.Keys[:cap(entry.Keys)], func(key api.Hash) bool { return key != api.Hash{byte(i)} }) {
			return false
		}
	}
	return true
}

// P16.9, P0.3: no call writes into a transaction; what is answered shares nothing with it, nor with other answers, nor within itself.
func TestApart(t *testing.T) {
	row := chance.Row(1640)
	for n := range 200 {
		x := roomy(&row, anyDraft(&row, n%kinds))
		bare, before, sig := cloned(x), whole(x), anySig(&row)
		wantPayload, _ := modelPayload(bare)
		first, e := signing.Payload(x)
		second, f := signing.Payload(x)
		paint(first, 0xee)
		if e != api.OK || f != api.OK || !bytes.Equal(second, wantPayload) || !tx.Same(whole(x), before) {
			t.Fatalf("Payload: %d, %d, or the answers share memory, or the transaction was written to", e, f)
		}
		signing.Digest(x)
		signing.Protected(x)
		for _, sign := range []func(api.Tx) (api.Tx, api.Errno){
			func(x api.Tx) (api.Tx, api.Errno) { return signing.Signed(x, sig) },
			func(x api.Tx) (api.Tx, api.Errno) { return signing.Sign(x, one) },
			func(x api.Tx) (api.Tx, api.Errno) { return signing.SignWith(x, sig.R, sig.S) },
		} {
			x := roomy(&row, bare)
			before := whole(x)
			want, _ := sign(bare)
			signed, e := sign(x)
			other, f := sign(x)
			if e != api.OK || f != api.OK || !tx.Same(signed, want) || !tx.Same(whole(x), before) {
				t.Fatalf("%d, %d, or the transaction was written to", e, f)
			}
			signing.Signature(signed)
			signing.Signer(signed)
			signing.Sender(signed)
			if !tx.Same(signed, want) || !areKeysApart(signed.Access) {
				t.Fatal("the signed transaction was written to, or its keys share memory with each other")
			}
			spoil(signed)
			if !tx.Same(whole(x), before) || !tx.Same(other, want) {
				t.Fatal("the answers share memory with each other, or with the transaction")
			}
			spoil(x)
			if !tx.Same(other, want) {
				t.Fatal("the answer changes with the transaction")
			}
		}
		spoil(x)
		if !bytes.Equal(second, wantPayload) {
			t.Fatal("the payload changes with the transaction")
		}
	}
}

// P16.9, P0.3: what is signed, or refused, is not written to either.
func TestReadingApart(t *testing.T) {
	row := chance.Row(1641)
	for kind := range kinds {
		eachSet(faults(kind), func(put func(*api.Tx), _ api.Errno) {
			draft := anyDraft(&row, kind)
			draft.V, draft.R, draft.S = modelV(draft, row.Below(2) == 0), anyInside(&row), anyLow(&row)
			put(&draft)
			x := roomy(&row, draft)
			before := whole(x)
			signing.Payload(x)
			signing.Digest(x)
			signing.Protected(x)
			signing.Signature(x)
			signing.Signer(x)
			signing.Sender(x)
			signing.Signed(x, noSig)
			signing.Sign(x, zero)
			signing.SignWith(x, zero, zero)
			if !tx.Same(whole(x), before) {
				t.Errorf("type %d: the transaction was written to", kind)
			}
		})
	}
}

// P16.9, P0.3: an empty list with room behind its end gives no list that has it.
func TestEmptyApart(t *testing.T) {
	for kind := range kinds {
		x := plain(kind)
		x.Data = make([]byte, 0, 9)
		if kind > 0 {
			x.Access = append(make([]api.AccessEntry, 0, 9), api.AccessEntry{Keys: make([]api.Hash, 0, 9)})[:kind%2]
		}
		signed, e := signing.Sign(x, one)
		if e != api.OK {
			t.Fatalf("Sign: %d", e)
		}
		signed.Data = append(signed.Data, 7)
		signed.Access = append(signed.Access, api.AccessEntry{Address: api.Address{7}})
		signed.Access[0].Keys = append(signed.Access[0].Keys, api.Hash{7})
		if y := whole(x); slices.Contains(y.Data, 7) || slices.ContainsFunc(y.Access, func(entry api.AccessEntry) bool {
			return entry.Address != nobody || slices.Contains(entry.Keys, api.Hash{7})
		}) {
			t.Errorf("type %d: the room behind an empty list is shared", kind)
		}
	}
}

// P0.4: nil and a list of length 0 are the same.
func TestNilAndEmpty(t *testing.T) {
	for kind := range kinds {
		x := plain(kind)
		y := cloned(x)
		y.Data = []byte{}
		if y.Access = make([]api.AccessEntry, 0, 3); kind > 0 {
			x.Access = []api.AccessEntry{{}}
			y.Access = []api.AccessEntry{{Keys: make([]api.Hash, 0, 3)}}
		}
		if kind != 3 {
			y.BlobHashes = make([]api.Hash, 0, 3)
		}
		if kind != 4 {
			y.Auths = make([]api.Auth, 0, 3)
		}
		a, e := signing.Payload(x)
		b, f := signing.Payload(y)
		if !bytes.Equal(a, b) || e != api.OK || f != api.OK {
			t.Errorf("type %d, nil and empty lists: %x, %d; %x, %d", kind, a, e, b, f)
		}
		c, e := signing.Sign(x, one)
		d, f := signing.Sign(y, one)
		if !tx.Same(c, d) || e != api.OK || f != api.OK {
			t.Errorf("type %d, nil and empty lists: %+v, %d; %+v, %d", kind, c, e, d, f)
		}
	}
}

// P0.6: the same again has the same answer, also while others ask at the same time.
func TestSameAgain(t *testing.T) {
	row := chance.Row(1642)
	var drafts, signed []api.Tx
	for kind := range kinds {
		x := anyDraft(&row, kind)
		y, _ := modelSign(x, api.U256{uint64(kind + 1)})
		drafts, signed = append(drafts, x), append(signed, y)
	}
	var workers sync.WaitGroup
	for first := range 8 {
		workers.Go(func() {
			for n := range 20 {
				i := (first + n) % kinds
				y, e := signing.Sign(drafts[i], api.U256{uint64(i + 1)})
				who, f := signing.Sender(signed[i])
				if want, _ := modelSender(signed[i]); !tx.Same(y, signed[i]) || e != api.OK || who != want || f != api.OK {
					t.Errorf("Sign and Sender: %d, %d", e, f)
				}
			}
		})
	}
	workers.Wait()
}
