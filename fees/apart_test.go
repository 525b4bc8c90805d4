package fees_test

import (
	"slices"
	"sync"
	"testing"

	"waybill/api"
	"waybill/chance"
	"waybill/fees"
	"waybill/tx"
)

// roomy tells a transaction again, its lists with room beyond their ends, in which something stands.
func roomy(row *chance.Row, x api.Tx) api.Tx {
	data, _ := row.Roomy(len(x.Data))
	copy(data, x.Data)
	x.Data = data
	x.BlobHashes = append(slices.Clone(x.BlobHashes), anyHash(row), anyHash(row))[:len(x.BlobHashes)]
	x.Auths = append(slices.Clone(x.Auths), anyAuth(row), anyAuth(row))[:len(x.Auths)]
	entries := append(slices.Clone(x.Access), api.AccessEntry{Keys: []api.Hash{anyHash(row)}})
	for i, entry := range entries {
		entries[i].Keys = append(slices.Clone(entry.Keys), anyHash(row))[:len(entry.Keys)]
	}
	x.Access = entries[:len(x.Access)]
	return x
}

// entire tells a transaction with all that stands in the room beyond its lists' ends, in memory of its own.
func entire(x api.Tx) api.Tx {
	x.Data, x.BlobHashes, x.Auths = slices.Clone(x.Data[:cap(x.Data)]), slices.Clone(x.BlobHashes[:cap(x.BlobHashes)]), slices.Clone(x.Auths[:cap(x.Auths)])
	x.Access = slices.Clone(x.Access[:cap(x.Access)])
	for i, entry := range x.Access {
		x.Access[i].Keys = slices.Clone(entry.Keys[:cap(entry.Keys)])
	}
	return x
}

// told is what all calls answer of a transaction.
type told struct {
	intrinsic, floor, blobs       uint64
	price, tip, cost, burnt, paid api.U256
	ofNeed, ofFloor, ofGas        api.Errno
	ofPrice, ofCost, ofCharge     api.Errno
	next, blobPrice               api.U256
	excess                        uint64
	ofNext, ofExcess, ofBlobs     api.Errno
}

func tell(x api.Tx, base api.U256, used uint64) (all told) {
	all.intrinsic, all.ofNeed = fees.Intrinsic(x)
	all.floor, all.ofFloor = fees.Floor(x)
	all.ofGas = fees.Enough(x)
	all.blobs = fees.BlobGas(x)
	all.price, all.tip, all.ofPrice = fees.Price(x, base)
	all.cost, all.ofCost = fees.Cost(x)
	all.burnt, all.paid, all.ofCharge = fees.Charge(x, base, used)
	all.next, all.ofNext = fees.NextBase(base, x.Gas, used)
	all.excess, all.ofExcess = fees.NextExcess(x.Gas, used, x.Nonce)
	all.blobPrice, all.ofBlobs = fees.BlobBase(used, x.Gas)
	return all
}

// P18.12, P0.3: no call writes into a transaction, nor into the room behind its lists; what stands there counts for nothing, whether the transaction is taken or refused.
func TestApart(t *testing.T) {
	row := chance.Row(1840)
	for kind := range kinds {
		eachSet(faults(kind), func(put func(*api.Tx), _ api.Errno) {
			for range 20 {
				bare := anyDraft(&row, kind)
				put(&bare)
				x := roomy(&row, bare)
				before := entire(x)
				base := anyOf(&row, zero, x.Cap, x.Price)
				used := anySmall(&row)
				if got, want := tell(x, base, used), tell(cloned(bare), base, used); got != want {
					t.Errorf("of %+v: %+v, want %+v", bare, got, want)
				}
				if !tx.Same(entire(x), before) {
					t.Errorf("type %d: the transaction was written to", kind)
				}
			}
		})
	}
}

// P0.4: nil and a list of length 0 are the same.
func TestNilAndEmpty(t *testing.T) {
	for kind := range kinds {
		x := plain(kind)
		x.Gas = 50000
		y := cloned(x)
		y.Data = make([]byte, 0, 9)
		if y.Access = make([]api.AccessEntry, 0, 3); kind > 0 {
			x.Access = []api.AccessEntry{{}}
			y.Access = []api.AccessEntry{{Keys: make([]api.Hash, 0, 3)}}
		}
		if kind != 3 {
			y.BlobHashes = make([]api.Hash, 0, 3)
		}
		if kind != 4 {
			y.Auths = make([]api.Auth, 0, 3)
		}
		if a, b := tell(x, zero, 1), tell(y, zero, 1); a != b || a.ofNeed != api.OK || a.ofCharge != api.OK {
			t.Errorf("type %d, nil and empty lists: %+v; %+v", kind, a, b)
		}
	}
}

// P0.6: the same again has the same answer, also while others ask at the same time.
func TestSameAgain(t *testing.T) {
	row := chance.Row(1841)
	var drafts []api.Tx
	var bases []api.U256
	var first []told
	for n := range 50 {
		x := anyDraft(&row, n%kinds)
		base := anyOf(&row, zero, x.Cap, x.Price)
		drafts, bases, first = append(drafts, x), append(bases, base), append(first, tell(x, base, x.Gas/2))
	}
	var workers sync.WaitGroup
	for start := range 8 {
		workers.Go(func() {
			for n := range 200 {
				i := (start*7 + n) % len(drafts)
				if again := tell(drafts[i], bases[i], drafts[i].Gas/2); again != first[i] {
					t.Errorf("of %+v: %+v, then %+v", drafts[i], first[i], again)
				}
			}
		})
	}
	workers.Wait()
}
