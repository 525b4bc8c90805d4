package tx_test

import (
	"testing"

	"waybill/api"
	"waybill/chance"
	"waybill/tx"
)

// checkSame holds Same of two transactions, both ways round, against its model (P15.7).
func checkSame(t *testing.T, a, b api.Tx) bool {
	t.Helper()
	got := tx.Same(a, b)
	if got != modelSame(a, b) || got != tx.Same(b, a) {
		t.Errorf("Same(%+v, %+v) = %t", a, b, got)
	}
	return got
}

// otherwise tells a transaction with one thing changed, in each way; fields that its type has not among them.
func otherwise(x api.Tx) []api.Tx {
	var all []api.Tx
	with := func(change func(*api.Tx)) {
		y := cloned(x)
		change(&y)
		all = append(all, y)
	}
	for word := range numbers(&x) {
		for i := range 256 {
			with(func(y *api.Tx) { numbers(y)[word][i/64] ^= 1 << (i % 64) })
		}
	}
	for word := range smalls(&x) {
		for i := range 64 {
			with(func(y *api.Tx) { *smalls(y)[word] ^= 1 << i })
		}
	}
	for i := range 20 {
		with(func(y *api.Tx) { y.To[i] ^= 1 })
	}
	with(func(y *api.Tx) { y.Type++ })
	with(func(y *api.Tx) { y.Type = -1 })
	with(func(y *api.Tx) { y.Create = !y.Create })
	with(func(y *api.Tx) { y.Data = append(y.Data, 0) })
	with(func(y *api.Tx) { y.Access = append(y.Access, api.AccessEntry{}) })
	with(func(y *api.Tx) { y.BlobHashes = append(y.BlobHashes, api.Hash{}) })
	with(func(y *api.Tx) { y.Auths = append(y.Auths, api.Auth{}) })
	if n := len(x.Data); n > 0 {
		with(func(y *api.Tx) { y.Data = y.Data[1:] })
		with(func(y *api.Tx) { y.Data[n-1] ^= 1 })
		with(func(y *api.Tx) { y.Data[0] ^= 0x80 })
	}
	for i, entry := range x.Access {
		with(func(y *api.Tx) { y.Access[i].Address[19] ^= 1 })
		with(func(y *api.Tx) { y.Access[i].Keys = append(y.Access[i].Keys, api.Hash{}) })
		for k := range entry.Keys {
			with(func(y *api.Tx) { y.Access[i].Keys[k][31] ^= 1 })
			with(func(y *api.Tx) { y.Access[i].Keys = y.Access[i].Keys[1:] })
		}
		with(func(y *api.Tx) { y.Access = y.Access[1:] })
	}
	for i := range x.BlobHashes {
		with(func(y *api.Tx) { y.BlobHashes[i][31] ^= 1 })
		with(func(y *api.Tx) { y.BlobHashes = y.BlobHashes[:i] })
	}
	for i := range x.Auths {
		for _, change := range []func(*api.Auth){func(a *api.Auth) { a.Chain[3] ^= 1 }, func(a *api.Auth) { a.Address[0] ^= 1 }, func(a *api.Auth) { a.Nonce ^= 1 }, func(a *api.Auth) { a.Parity ^= 256 }, func(a *api.Auth) { a.R[1] ^= 1 }, func(a *api.Auth) { a.S[2] ^= 1 }} {
			with(func(y *api.Tx) { change(&y.Auths[i]) })
		}
		with(func(y *api.Tx) { y.Auths = y.Auths[:i] })
	}
	return all
}

// P15.7: a transaction and its copy; each change of each field.
func TestSame(t *testing.T) {
	row := chance.Row(1520)
	var ones []api.Tx
	for kind := range kinds {
		ones = append(ones, anyTx(&row, kind), plain(kind))
	}
	everything := anyTx(&row, 1)
	everything.Access = []api.AccessEntry{{Keys: []api.Hash{{}, {1}}}, {Address: api.Address{1}}}
	everything.Tip, everything.Cap, everything.BlobCap, everything.BlobHashes, everything.Auths, everything.Type = top, top, top, []api.Hash{{}, {1}}, []api.Auth{{}, {Parity: 9}}, 77
	ones = append(ones, api.Tx{}, everything)
	for i, x := range ones {
		if !checkSame(t, x, cloned(x)) {
			t.Errorf("a copy is another one: %+v", x)
		}
		for k, y := range ones {
			if checkSame(t, x, y) != (i == k) {
				t.Errorf("Same of %d and %d", i, k)
			}
		}
		for _, y := range otherwise(x) {
			if checkSame(t, x, y) {
				t.Errorf("Same(%+v, %+v)", x, y)
			}
		}
	}
}

// P15.7, P0.4: a nil list is as good as one of length 0.
func TestSameNil(t *testing.T) {
	for kind := range 8 {
		bare := api.Tx{Type: kind, Access: []api.AccessEntry{{}}}
		empty := api.Tx{Type: kind, Access: []api.AccessEntry{{Keys: make([]api.Hash, 0, 2)}}, Data: []byte{}, BlobHashes: make([]api.Hash, 0, 2), Auths: []api.Auth{}}
		if !checkSame(t, bare, empty) {
			t.Error("nil and empty lists are told apart")
		}
		bare.Access, empty.Access = nil, empty.Access[:0]
		if !checkSame(t, bare, empty) {
			t.Error("nil and empty access lists are told apart")
		}
	}
}
