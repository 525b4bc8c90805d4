package tx_test

import (
	"bytes"
	"slices"
	"testing"

	"waybill/api"
	"waybill/tx"
)

// modelSize tells how many bytes an item has, without making them.
func modelSize(it api.Item) int {
	if !it.List {
		return len(modelHead(0x80, len(it.Data))) + len(it.Data)
	}
	held := 0
	for _, inner := range it.Items {
		if len(inner.Data) == 1 && inner.Data[0] < 0x80 {
			held++
		} else {
			held += modelSize(inner)
		}
	}
	return len(modelHead(0xc0, held)) + held
}

// filled tells a transaction with so much Data that what the size is asked of has just so many bytes.
func filled(t *testing.T, x api.Tx, size int, sizeOf func(api.Tx) int) api.Tx {
	t.Helper()
	x.Data = make([]byte, 1<<20) // so the heads of the text and of the list have their full lengths, or nearly
	for range 3 {
		x.Data = make([]byte, len(x.Data)+size-sizeOf(x))
	}
	if got := sizeOf(x); got != size {
		t.Fatalf("a transaction of %d bytes, not %d", got, size)
	}
	return x
}

func envelopeSize(x api.Tx) int {
	if x.Type == 0 {
		return modelSize(modelTree(x))
	}
	return 1 + modelSize(modelTree(x))
}

func fieldsSize(x api.Tx) int {
	all := modelTree(x).Items
	return modelSize(list(all[:len(all)-3]...))
}

// great tells a transaction of each type with many bytes in all its lists.
func great() []api.Tx {
	all := []api.Tx{{Type: 0, V: api.U256{27}, R: top, S: top}}
	keys := []api.AccessEntry{{Keys: make([]api.Hash, 40000)}, {Address: api.Address{1}, Keys: make([]api.Hash, 5000)}}
	entries := make([]api.AccessEntry, 40000)
	auths := slices.Repeat([]api.Auth{{Chain: top, Nonce: most, Parity: 255, R: top, S: top}}, 10000)
	all = append(all, api.Tx{Type: 1, Access: keys, V: api.U256{1}}, api.Tx{Type: 2, Access: entries, Create: true})
	all = append(all, api.Tx{Type: 3, Access: keys, BlobHashes: slices.Repeat([]api.Hash{{1}}, api.MaxBlobs)})
	return append(all, api.Tx{Type: 4, Auths: auths, Access: keys[1:], R: top})
}

// P15.3, P15.5, P15.6, P0.7: an envelope of just MaxInput bytes is taken, one of one byte more is not: the type's byte counts.
func TestLongEnvelopes(t *testing.T) {
	for kind := range kinds {
		for _, x := range []api.Tx{plain(kind), great()[kind]} {
			fits := filled(t, x, maxInput, envelopeSize)
			b, e := tx.Encode(fits)
			if tx.Check(fits) != api.OK || e != api.OK || len(b) != maxInput || !bytes.Equal(b, sealed(kind, modelTree(fits))) {
				t.Errorf("type %d of MaxInput bytes: Check %d, Encode %d bytes, %d", kind, tx.Check(fits), len(b), e)
			}
			if h, e := tx.Hash(fits); h == (api.Hash{}) || e != api.OK {
				t.Errorf("type %d of MaxInput bytes: Hash %d", kind, e)
			}
			if y, e := tx.Decode(b); !tx.Same(fits, y) || e != api.OK {
				t.Errorf("type %d of MaxInput bytes: Decode %d", kind, e)
			}
			long := filled(t, x, maxInput+1, envelopeSize)
			if e := tx.Check(long); e != api.ErrLong {
				t.Errorf("type %d of a byte more: Check %d", kind, e)
			}
			if b, e := tx.Encode(long); b != nil || e != api.ErrLong {
				t.Errorf("type %d of a byte more: Encode %d bytes, %d", kind, len(b), e)
			}
			if h, e := tx.Hash(long); h != (api.Hash{}) || e != api.ErrLong {
				t.Errorf("type %d of a byte more: Hash %x, %d", kind, h, e)
			}
			wantError(t, sealed(kind, modelTree(long)), api.ErrLong)
			long.V = api.U256{2}
			if d, c := tx.Draft(long), tx.Check(long); d != api.OK || c != api.ErrTxSig {
				t.Errorf("type %d of a byte more and a wrong V: Draft %d, Check %d", kind, d, c)
			}
		}
	}
}

// P15.4: the list of Fields has no signature and no type ahead: it may be just of MaxInput bytes.
func TestLongFields(t *testing.T) {
	for kind := range kinds {
		for _, x := range []api.Tx{plain(kind), great()[kind]} {
			fits := filled(t, x, maxInput, fieldsSize)
			all := modelTree(fits).Items
			if items, e := tx.Fields(fits); !sameItems(items, all[:len(all)-3]) || e != api.OK {
				t.Errorf("type %d, a list of MaxInput bytes: %d items, %d", kind, len(items), e)
			}
			if e := tx.Check(fits); e != api.ErrLong {
				t.Errorf("type %d, a list of MaxInput bytes and a signature: %d", kind, e)
			}
			long := filled(t, x, maxInput+1, fieldsSize)
			if items, e := tx.Fields(long); items != nil || e != api.ErrLong {
				t.Errorf("type %d, a list of a byte more: %d items, %d", kind, len(items), e)
			}
			if e := tx.Draft(long); e != api.OK {
				t.Errorf("type %d, a list of a byte more: Draft %d", kind, e)
			}
			long.Chain = most
			if items, e := tx.Fields(long); items != nil || e != api.ErrTxChain {
				t.Errorf("type %d, a list of a byte more, a wrong Chain: %d items, %d", kind, len(items), e)
			}
		}
	}
}

// P15.3 to P15.6, P0.1, P0.7: what is far too long.
func TestFarTooLong(t *testing.T) {
	keys := make([]api.Hash, 1<<20)
	for i, x := range []api.Tx{
		{Type: 0, V: api.U256{27}, Data: make([]byte, 1<<28)}, {Type: 2, Data: make([]byte, maxInput)}, {Type: 2, Data: make([]byte, maxInput+1)},
		{Type: 1, Access: slices.Repeat([]api.AccessEntry{{Keys: keys}}, 60)}, {Type: 3, BlobHashes: []api.Hash{{1}}, Access: make([]api.AccessEntry, 1<<21)},
		{Type: 4, Auths: make([]api.Auth, 1<<20)}, {Type: 4, Auths: make([]api.Auth, 1), Access: []api.AccessEntry{{Keys: keys}}},
	} {
		if e := tx.Draft(x); e != api.OK {
			t.Errorf("%d: Draft %d", i, e)
		}
		if e := tx.Check(x); e != api.ErrLong {
			t.Errorf("%d: Check %d", i, e)
		}
		if b, e := tx.Encode(x); b != nil || e != api.ErrLong {
			t.Errorf("%d: Encode %d bytes, %d", i, len(b), e)
		}
		if items, e := tx.Fields(x); items != nil || e != api.ErrLong {
			t.Errorf("%d: Fields %d items, %d", i, len(items), e)
		}
		if h, e := tx.Hash(x); h != (api.Hash{}) || e != api.ErrLong {
			t.Errorf("%d: Hash %x, %d", i, h, e)
		}
	}
	for _, n := range []int{maxInput + 1, maxInput + 2, 2 * maxInput} { // ahead of all that the bytes say
		for _, first := range []byte{0, 1, 4, 5, 0x7f, 0x80, 0xbf, 0xc0, 0xff} {
			data := make([]byte, n)
			data[0] = first
			wantError(t, data, api.ErrLong)
		}
	}
	for first, want := range map[byte]api.Errno{0: api.ErrTxType, 1: api.ErrRlpRest, 5: api.ErrTxType, 0x80: api.ErrTxForm, 0xc0: api.ErrRlpRest} {
		data := make([]byte, maxInput)
		data[0] = first
		wantError(t, data, want)
	}
}
