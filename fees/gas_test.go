package fees_test

import (
	"bytes"
	"testing"

	"waybill/api"
	"waybill/chance"
	"waybill/fees"
)

// checkGas holds Intrinsic, Floor, Enough and BlobGas against their models (P18.1 to P18.4, P0.2) and tells the error of the first.
func checkGas(t *testing.T, x api.Tx) api.Errno {
	t.Helper()
	need, wantE := modelIntrinsic(x)
	if gas, e := fees.Intrinsic(x); gas != need || e != wantE {
		t.Errorf("Intrinsic(%+v) = %d, %d, want %d, %d", x, gas, e, need, wantE)
	}
	least, wantF := modelFloor(x)
	if gas, e := fees.Floor(x); gas != least || e != wantF {
		t.Errorf("Floor(%+v) = %d, %d, want %d, %d", x, gas, e, least, wantF)
	}
	if e, want := fees.Enough(x), modelEnough(x); e != want {
		t.Errorf("Enough(%+v) = %d, want %d", x, e, want)
	}
	if gas, want := fees.BlobGas(x), modelBlobGas(x); gas != want {
		t.Errorf("BlobGas(%+v) = %d, want %d", x, gas, want)
	}
	return wantE
}

// P18.1, P18.2: the chapter's examples, and each part of the sum alone.
func TestExamplesOfGas(t *testing.T) {
	keys := make([]api.Hash, 2)
	for _, c := range []struct {
		x           api.Tx
		need, least uint64
	}{
		{api.Tx{}, 21000, 21000},
		{api.Tx{Create: true}, 53000, 21000},
		{api.Tx{Create: true, Data: make([]byte, 33)}, 53136, 21330},
		{api.Tx{Data: []byte{0, 1}}, 21020, 21050},
		{api.Tx{Type: 2, Access: []api.AccessEntry{{Keys: keys}}}, 27200, 21000},
		{api.Tx{Type: 4, Auths: make([]api.Auth, 1)}, 46000, 21000},
		{api.Tx{To: api.Address{1}, Gas: 7, Nonce: 8, Value: top, Price: top}, 21000, 21000},
		{api.Tx{Data: []byte{0}}, 21004, 21010},
		{api.Tx{Data: []byte{1}}, 21016, 21040},
		{api.Tx{Data: []byte{255}}, 21016, 21040},
		{api.Tx{Data: make([]byte, 33)}, 21132, 21330}, // no words are counted without Create
		{api.Tx{Type: 1, Create: true, Data: []byte{0}}, 53006, 21010},
		{api.Tx{Type: 2, Create: true, Data: []byte{5}}, 53018, 21040},
		{api.Tx{Type: 1, Access: make([]api.AccessEntry, 1)}, 23400, 21000},
		{api.Tx{Type: 3, BlobHashes: []api.Hash{{1}}}, 21000, 21000}, // blobs have a gas of their own
		{api.Tx{Type: 3, Access: []api.AccessEntry{{Keys: keys}, {}, {Keys: keys[:1]}}, BlobHashes: []api.Hash{{1}}}, 21000 + 3*2400 + 3*1900, 21000},
		{api.Tx{Type: 4, Auths: make([]api.Auth, 3), Access: []api.AccessEntry{{Keys: keys}}, Data: []byte{0, 0, 9}}, 21000 + 75000 + 2400 + 3800 + 24, 21060},
	} {
		if gas, e := fees.Intrinsic(c.x); gas != c.need || e != api.OK {
			t.Errorf("Intrinsic(%+v) = %d, %d, want %d", c.x, gas, e, c.need)
		}
		if gas, e := fees.Floor(c.x); gas != c.least || e != api.OK {
			t.Errorf("Floor(%+v) = %d, %d, want %d", c.x, gas, e, c.least)
		}
		checkGas(t, c.x)
	}
}

// P18.1, P18.2: each byte that is not 0 has the same price, and 0 another one, wherever it stands.
func TestBytes(t *testing.T) {
	for b := range 256 {
		for at := range 5 {
			x := api.Tx{Data: bytes.Repeat([]byte{7}, 5)}
			x.Data[at] = byte(b)
			need, least := uint64(21080), uint64(21200)
			if b == 0 {
				need, least = 21068, 21170
			}
			if gas, e := fees.Intrinsic(x); gas != need || e != api.OK {
				t.Errorf("Intrinsic with %x = %d, %d, want %d", x.Data, gas, e, need)
			}
			if gas, e := fees.Floor(x); gas != least || e != api.OK {
				t.Errorf("Floor with %x = %d, %d, want %d", x.Data, gas, e, least)
			}
		}
	}
}

// P18.1: the words of a new contract's code, the last one full or not.
func TestWords(t *testing.T) {
	for _, c := range []struct{ size, words uint64 }{{0, 0}, {1, 1}, {31, 1}, {32, 1}, {33, 2}, {63, 2}, {64, 2}, {65, 3}, {24576, 768}, {24577, 769}, {49152, 1536}, {49153, 1537}} {
		for kind := range 3 {
			x := api.Tx{Type: kind, Create: true, Data: make([]byte, c.size)}
			if gas, e := fees.Intrinsic(x); gas != 53000+4*c.size+2*c.words || e != api.OK {
				t.Errorf("Intrinsic of %d bytes = %d, %d, want %d words", c.size, gas, e, c.words)
			}
		}
	}
	for n := range 200 {
		checkGas(t, api.Tx{Create: true, Data: make([]byte, n)})
		checkGas(t, api.Tx{Create: true, Data: bytes.Repeat([]byte{1}, n)})
	}
}

// P18.1, P18.2, P18.4: drafts by chance; what does not make gas counts for nothing.
func TestGas(t *testing.T) {
	row := chance.Row(1810)
	for kind := range kinds {
		for range 400 {
			x := anyDraft(&row, kind)
			if e := checkGas(t, x); e != api.OK {
				t.Errorf("Intrinsic(%+v): %d", x, e)
			}
			y := cloned(x)
			y.Chain, y.Nonce, y.Gas, y.Value, y.Tip, y.Cap, y.Price, y.BlobCap, y.V, y.R, y.S = 0, 0, 0, zero, zero, zero, zero, zero, zero, zero, zero
			a, _ := fees.Intrinsic(x)
			if b, e := fees.Intrinsic(y); a != b || e != api.OK {
				t.Errorf("Intrinsic(%+v) = %d, %d, and %d with other numbers", x, b, e, a)
			}
		}
	}
}

// P18.3: just enough for both, one less, none, all there is; what one asks is not enough for the other.
func TestEnough(t *testing.T) {
	floored := api.Tx{Data: []byte{0, 1}}            // 21020 and 21050
	made := api.Tx{Create: true, Data: []byte{0, 1}} // 53022 and 21050
	level := api.Tx{Data: make([]byte, 0)}           // 21000 twice
	for _, c := range []struct {
		x    api.Tx
		gas  uint64
		want api.Errno
	}{
		{floored, 21049, api.ErrFeeGas}, {floored, 21050, api.OK}, {floored, 21051, api.OK}, {floored, 21020, api.ErrFeeGas}, {floored, 0, api.ErrFeeGas}, {floored, most, api.OK},
		{made, 53021, api.ErrFeeGas}, {made, 53022, api.OK}, {made, 53023, api.OK}, {made, 21050, api.ErrFeeGas},
		{level, 20999, api.ErrFeeGas}, {level, 21000, api.OK},
	} {
		c.x.Gas = c.gas
		if e := fees.Enough(c.x); e != c.want {
			t.Errorf("Enough(%+v) = %d, want %d", c.x, e, c.want)
		}
	}
	row := chance.Row(1811)
	more, fewer := 0, 0
	for n := range 2000 {
		x := anyDraft(&row, n%kinds)
		if n%3 == 0 {
			x.Data = anyData(&row, 1000+row.Below(3000))
		}
		need, _ := modelIntrinsic(x)
		least, _ := modelFloor(x)
		if need > least {
			more++
		}
		if need < least {
			fewer++
		}
		for _, gas := range []uint64{0, 1, need - 1, need, need + 1, least - 1, least, least + 1, 1 << 32, most} {
			x.Gas = gas
			want := api.OK
			if gas < need || gas < least {
				want = api.ErrFeeGas
			}
			if e := fees.Enough(x); e != want {
				t.Errorf("Enough with %d of %d and %d = %d, want %d", gas, need, least, e, want)
			}
		}
	}
	if more < 100 || fewer < 100 {
		t.Errorf("not both cases are looked at: %d, %d", more, fewer)
	}
}

// P18.4: any transaction: of type 3 its blobs are counted, whatever they and all else are; of others they are not.
func TestBlobGas(t *testing.T) {
	row := chance.Row(1812)
	for _, n := range []int{0, 1, 2, 3, 6, 9, 4095, 4096, 4097, 40000} {
		hashes := make([]api.Hash, n)
		for i := range hashes {
			hashes[i][0] = byte(i)
		}
		for _, kind := range []int{-1 << 63, -1, 0, 1, 2, 3, 4, 5, 6, 259, 1<<32 + 3, 1<<63 - 1} {
			want := uint64(0)
			if kind == 3 {
				want = 131072 * uint64(n)
			}
			for _, x := range []api.Tx{{Type: kind, BlobHashes: hashes}, {Type: kind, BlobHashes: hashes, Create: true, Chain: most, Price: top, Auths: []api.Auth{{Parity: 999}}, Gas: row.Next(), BlobCap: row.Number()}} {
				if gas := fees.BlobGas(x); gas != want {
					t.Errorf("BlobGas of %d, type %d = %d, want %d", n, kind, gas, want)
				}
			}
		}
	}
	for kind := range kinds {
		eachSet(faults(kind), func(put func(*api.Tx), _ api.Errno) {
			x := anyDraft(&row, kind)
			put(&x)
			if gas := fees.BlobGas(x); gas != modelBlobGas(x) {
				t.Errorf("BlobGas(%+v) = %d", x, gas)
			}
		})
	}
}

// P18.1, P18.2, P0.7: no size is refused, and no sum is cut.
func TestGreatGas(t *testing.T) {
	x := api.Tx{Create: true, Data: make([]byte, 1<<24+1)}
	checkGas(t, x)
	x.Data[7] = 1
	checkGas(t, x)
	x = api.Tx{Data: bytes.Repeat([]byte{1}, 1<<27)}
	if gas, e := fees.Floor(x); gas != 40<<27+21000 || e != api.OK { // more than 32 bits
		t.Errorf("Floor of 2^27 bytes = %d, %d", gas, e)
	}
	if gas, e := fees.Intrinsic(x); gas != 16<<27+21000 || e != api.OK {
		t.Errorf("Intrinsic of 2^27 bytes = %d, %d", gas, e)
	}
	x = api.Tx{Type: 1, Access: make([]api.AccessEntry, 1000)}
	keys := make([]api.Hash, 1<<16)
	for i := range x.Access {
		x.Access[i].Keys = keys
	}
	if gas, e := fees.Intrinsic(x); gas != 21000+1000*(2400+1900<<16) || e != api.OK {
		t.Errorf("Intrinsic of 1000 times 2^16 keys = %d, %d", gas, e)
	}
	x = api.Tx{Type: 4, Auths: make([]api.Auth, 1<<18)}
	if gas, e := fees.Intrinsic(x); gas != 21000+25000<<18 || e != api.OK {
		t.Errorf("Intrinsic of 2^18 authorizations = %d, %d", gas, e)
	}
	x = api.Tx{Type: 2, Access: make([]api.AccessEntry, 1<<21)}
	if gas, e := fees.Intrinsic(x); gas != 21000+2400<<21 || e != api.OK {
		t.Errorf("Intrinsic of 2^21 entries = %d, %d", gas, e)
	}
}

// P18.1 to P18.3, P18.5 to P18.7, P0.1, P0.2: whatever tx.Draft finds, it is told first, and nothing beside it.
func TestDraftRefused(t *testing.T) {
	row := chance.Row(1813)
	check := func(x api.Tx, want api.Errno) {
		t.Helper()
		if gas, e := fees.Intrinsic(x); gas != 0 || e != want {
			t.Errorf("Intrinsic(%+v) = %d, %d, want %d", x, gas, e, want)
		}
		if gas, e := fees.Floor(x); gas != 0 || e != want {
			t.Errorf("Floor(%+v) = %d, %d, want %d", x, gas, e, want)
		}
		if e := fees.Enough(x); e != want {
			t.Errorf("Enough(%+v) = %d, want %d", x, e, want)
		}
		if sum, e := fees.Cost(x); sum != zero || e != want {
			t.Errorf("Cost(%+v) = %x, %d, want %d", x, sum, e, want)
		}
		for _, base := range []api.U256{zero, one, top, x.Price, x.Cap} {
			if price, tip, e := fees.Price(x, base); price != zero || tip != zero || e != want {
				t.Errorf("Price(%+v, %x) = %x, %x, %d, want %d", x, base, price, tip, e, want)
			}
			for _, used := range []uint64{0, 1, x.Gas, most} {
				if burnt, paid, e := fees.Charge(x, base, used); burnt != zero || paid != zero || e != want {
					t.Errorf("Charge(%+v, %x, %d) = %x, %x, %d, want %d", x, base, used, burnt, paid, e, want)
				}
			}
		}
	}
	for kind := range kinds {
		eachSet(faults(kind), func(put func(*api.Tx), want api.Errno) {
			for _, gas := range []uint64{0, most} {
				x := anyDraft(&row, kind)
				x.Gas = gas
				put(&x)
				if want != api.OK {
					check(x, want)
				}
			}
		})
		x := capped(kind, top, one) // a tip above the cap, and too little gas: both come behind
		x.Chain = 1 << 63
		check(x, api.ErrTxChain)
	}
	for _, kind := range []int{-1 << 63, -1, 5, 6, 127, 128, 256, 259, 1 << 32, 1<<63 - 1} {
		check(api.Tx{Type: kind, Gas: most, Price: one, Cap: one}, api.ErrTxType)
	}
	check(api.Tx{Type: 3}, api.ErrTxEmpty)
	check(api.Tx{Type: 3, Create: true}, api.ErrTxTo)
	check(api.Tx{Type: 4}, api.ErrTxEmpty)
	check(api.Tx{Type: 3, BlobHashes: []api.Hash{{2}}}, api.ErrTxField)
}
