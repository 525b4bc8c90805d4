package u256_test

import (
	"bytes"
	"math/big"
	"testing"

	"waybill/api"
	"waybill/chance"
	"waybill/u256"
)

// P1.12: Put, Bytes, and what follows: they go back.
func TestPutBytes(t *testing.T) {
	for _, x := range append(edges(), sample()...) {
		full := u256.Put(x)
		if !bytes.Equal(full[:], wide(x).FillBytes(make([]byte, 32))) {
			t.Errorf("Put(%v) = % x", x, full)
		}
		short := u256.Bytes(x)
		if !bytes.Equal(short, wide(x).Bytes()) {
			t.Errorf("Bytes(%v) = % x", x, short)
		}
		if back, e := u256.Get(full[:]); back != x || e != api.OK {
			t.Errorf("Get(Put(%v)) = %v, %d", x, back, e)
		}
		if back, e := u256.Strict(short); back != x || e != api.OK {
			t.Errorf("Strict(Bytes(%v)) = %v, %d", x, back, e)
		}
	}
}

// P1.12: each length of bytes, with and without a zero ahead.
func TestBytesLengths(t *testing.T) {
	row := chance.Row(12)
	for size := range 33 {
		b := make([]byte, size)
		for i := range b {
			b[i] = byte(row.Next()) | 1
		}
		want := narrow(new(big.Int).SetBytes(b))
		if x, e := u256.Get(b); x != want || e != api.OK {
			t.Errorf("Get(% x) = %v, %d", b, x, e)
		}
		if x, e := u256.Strict(b); x != want || e != api.OK || !bytes.Equal(u256.Bytes(x), b) {
			t.Errorf("Strict(% x) = %v, %d", b, x, e)
		}
		if size == 0 {
			continue
		}
		b[0] = 0
		want = narrow(new(big.Int).SetBytes(b))
		if x, e := u256.Get(b); x != want || e != api.OK {
			t.Errorf("Get(% x) = %v, %d", b, x, e)
		}
		if x, e := u256.Strict(b); x != zero || e != api.ErrNumLead {
			t.Errorf("Strict(% x) = %v, %d", b, x, e)
		}
	}
}

// P1.12: the document's examples; too many bytes are refused whatever they are, and ahead of a zero in front.
func TestGetStrict(t *testing.T) {
	for _, c := range []struct {
		b           []byte
		x           api.U256
		get, strict api.Errno
	}{
		{nil, zero, api.OK, api.OK},
		{[]byte{}, zero, api.OK, api.OK},
		{[]byte{0}, zero, api.OK, api.ErrNumLead},
		{[]byte{0, 1}, one, api.OK, api.ErrNumLead},
		{[]byte{1, 0}, num(256), api.OK, api.OK},
		{make([]byte, 32), zero, api.OK, api.ErrNumLead},
		{bytes.Repeat([]byte{0xff}, 32), top, api.OK, api.OK},
		{make([]byte, 33), zero, api.ErrNumLong, api.ErrNumLong},
		{append(make([]byte, 32), 1), zero, api.ErrNumLong, api.ErrNumLong},
		{bytes.Repeat([]byte{0xff}, 33), zero, api.ErrNumLong, api.ErrNumLong},
		{make([]byte, api.MaxInput+1), zero, api.ErrNumLong, api.ErrNumLong},
	} {
		if x, e := u256.Get(c.b); x != c.x || e != c.get {
			t.Errorf("Get of %d bytes = %v, %d", len(c.b), x, e)
		}
		want := c.x
		if c.strict != api.OK {
			want = zero
		}
		if x, e := u256.Strict(c.b); x != want || e != c.strict {
			t.Errorf("Strict of %d bytes = %v, %d", len(c.b), x, e)
		}
	}
}

// P0.3: nothing is written into what is handed in, nor into its room beyond the end, and what is handed out is the caller's.
func TestBytesShareNothing(t *testing.T) {
	room := bytes.Repeat([]byte{7}, 64)
	u256.Get(room[:20])
	u256.Strict(room[:20])
	if !bytes.Equal(room, bytes.Repeat([]byte{7}, 64)) {
		t.Error("P0.3: an argument was changed")
	}
	first, second := u256.Bytes(top), u256.Bytes(top)
	clear(first[:cap(first)])
	if !bytes.Equal(second, bytes.Repeat([]byte{0xff}, 32)) || !bytes.Equal(u256.Bytes(top), second) {
		t.Error("P0.3: two answers share memory")
	}
}
