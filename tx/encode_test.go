package tx_test

import (
	"bytes"
	"encoding/hex"
	"slices"
	"testing"

	"waybill/api"
	"waybill/chance"
	"waybill/keccak"
	"waybill/tx"
)

// P15.4, P15.5: the chapter's first two examples; the document's second one.
func TestExamplesOfEncode(t *testing.T) {
	zeros := "0000000000000000000000000000000000000000"
	old := func(v, chain uint64) api.Tx {
		return api.Tx{Chain: chain, Gas: 21000, V: api.U256{v}, R: api.U256{1}, S: api.U256{2}}
	}
	for _, c := range []struct {
		x    api.Tx
		want string
	}{
		{old(27, 0), "df 80 80 82 5208 94 " + zeros + " 80 80 1b 01 02"},
		{old(28, 0), "df 80 80 82 5208 94 " + zeros + " 80 80 1c 01 02"},
		{old(37, 1), "df 80 80 82 5208 94 " + zeros + " 80 80 25 01 02"},
		{api.Tx{Type: 1, Chain: 1, Create: true}, "01 cb 01 80 80 80 80 80 80 c0 80 80 80"},
		{api.Tx{Type: 2, Chain: 1, Create: true}, "02 cc 01 80 80 80 80 80 80 80 c0 80 80 80"},
		{api.Tx{Type: 0, Chain: 1, Nonce: 2, Price: api.U256{3}, Gas: 4, Create: true, Value: api.U256{5}, Data: []byte{6}, V: api.U256{38}, R: api.U256{8}, S: api.U256{9}}, "c9 02 03 04 80 05 06 26 08 09"},
		{api.Tx{Type: 1, Chain: 1, Nonce: 2, Price: api.U256{3}, Gas: 4, Create: true, Value: api.U256{5}, Data: []byte{6}, V: api.U256{1}, R: api.U256{8}, S: api.U256{9}}, "01 cb 01 02 03 04 80 05 06 c0 01 08 09"},
		{api.Tx{Type: 2, Chain: 1, Nonce: 2, Tip: api.U256{3}, Cap: api.U256{4}, Gas: 5, Create: true, Value: api.U256{6}, Data: []byte{7}, V: api.U256{1}, R: api.U256{8}, S: api.U256{9}}, "02 cc 01 02 03 04 05 80 06 07 c0 01 08 09"},
		{api.Tx{Type: 3, Chain: 1, Nonce: 2, Tip: api.U256{3}, Cap: api.U256{4}, Gas: 5, Value: api.U256{6}, Data: []byte{7}, BlobCap: api.U256{10}, BlobHashes: []api.Hash{{1, 31: 11}}, V: api.U256{1}, R: api.U256{8}, S: api.U256{9}}, "03 f843 01 02 03 04 05 94 " + zeros + " 06 07 c0 0a e1 a0 01 " + zeros + "00000000000000000000 0b 01 08 09"},
		{api.Tx{Type: 4, Chain: 1, Nonce: 2, Tip: api.U256{3}, Cap: api.U256{4}, Gas: 5, Value: api.U256{6}, Data: []byte{7}, Auths: []api.Auth{{Chain: api.U256{10}, Nonce: 11, Parity: 12, R: api.U256{13}, S: api.U256{14}}}, V: api.U256{1}, R: api.U256{8}, S: api.U256{9}}, "04 f83c 01 02 03 04 05 94 " + zeros + " 06 07 c0 db da 0a 94 " + zeros + " 0b 0c 0d 0e 01 08 09"},
	} {
		b, e := tx.Encode(c.x)
		if !bytes.Equal(b, digits(c.want)) || e != api.OK {
			t.Errorf("Encode(%+v) = %x, %d, want %s", c.x, b, e, c.want)
		}
		if h, e := tx.Hash(c.x); h != keccak.Sum(digits(c.want)) || e != api.OK {
			t.Errorf("Hash(%+v) = %x, %d", c.x, h, e)
		}
		if y, e := tx.Decode(digits(c.want)); !modelSame(y, c.x) || e != api.OK {
			t.Errorf("Decode(%s) = %+v, %d", c.want, y, e)
		}
		checkAll(t, c.x)
	}
	example, _ := tx.Encode(old(27, 0))
	if len(example) != 32 {
		t.Errorf("the first example has %d bytes", len(example))
	}
	if _, e := tx.Decode(append(example, 0)); e != api.ErrRlpRest {
		t.Errorf("with one byte more: %d", e)
	}
}

// P15.5, P15.6: transactions that are known from elsewhere: EIP-155's, and two of go-ethereum's tests.
func TestKnown(t *testing.T) {
	receiver := api.Address(digits("b94f5374fce5edbc8e2a8697c15331677e6ebf0b"))
	number := func(s string) api.U256 {
		v, e := modelNumber(text(digits(s)...), 32)
		if e != api.OK {
			t.Fatal(s)
		}
		return v
	}
	for _, c := range []struct {
		x           api.Tx
		bytes, hash string
	}{
		{
			api.Tx{Chain: 1, Nonce: 9, Price: api.U256{20000000000}, Gas: 21000, To: api.Address(bytes.Repeat([]byte{0x35}, 20)), Value: api.U256{1000000000000000000}, V: api.U256{37}, R: number("28ef61340bd939bc2195fe537567866003e1a15d3c71ff63e1590620aa636276"), S: number("67cbe9d8997f761aecb703304b3800ccf555c9f3dc64214b297fb1966a3b6d83")},
			"f86c098504a817c800825208943535353535353535353535353535353535353535880de0b6b3a76400008025a028ef61340bd939bc2195fe537567866003e1a15d3c71ff63e1590620aa636276a067cbe9d8997f761aecb703304b3800ccf555c9f3dc64214b297fb1966a3b6d83",
			"33469b22e9f636356c4160a87eb19df52b7412e8eac32a4a55ffe88ea8350788",
		},
		{
			api.Tx{Nonce: 3, Price: api.U256{1}, Gas: 2000, To: receiver, Value: api.U256{10}, Data: []byte{0x55, 0x44}, V: api.U256{28}, R: number("98ff921201554726367d2be8c804a7ff89ccf285ebc57dff8ae4c44b9c19ac4a"), S: number("8887321be575c8095f789dd4c743dfe42c1820f9231f98a962b210e3ac2452a3")},
			"f86103018207d094b94f5374fce5edbc8e2a8697c15331677e6ebf0b0a8255441ca098ff921201554726367d2be8c804a7ff89ccf285ebc57dff8ae4c44b9c19ac4aa08887321be575c8095f789dd4c743dfe42c1820f9231f98a962b210e3ac2452a3",
			"",
		},
		{
			api.Tx{Type: 1, Chain: 1, Nonce: 3, Price: api.U256{1}, Gas: 25000, To: receiver, Value: api.U256{10}, Data: []byte{0x55, 0x44}, V: api.U256{1}, R: number("c9519f4f2b30335884581971573fadf60c6204f59a911df35ee8a540456b2660"), S: number("32f1e8e2c5dd761f9e4f88f41c8310aeaba26a8bfcdacfedfa12ec3862d37521")},
			"01f8630103018261a894b94f5374fce5edbc8e2a8697c15331677e6ebf0b0a825544c001a0c9519f4f2b30335884581971573fadf60c6204f59a911df35ee8a540456b2660a032f1e8e2c5dd761f9e4f88f41c8310aeaba26a8bfcdacfedfa12ec3862d37521",
			"",
		},
	} {
		b, e := tx.Encode(c.x)
		if hex.EncodeToString(b) != c.bytes || e != api.OK {
			t.Errorf("Encode = %x, %d, want %s", b, e, c.bytes)
		}
		if h, e := tx.Hash(c.x); c.hash != "" && hex.EncodeToString(h[:]) != c.hash || e != api.OK {
			t.Errorf("Hash = %x, %d, want %s", h, e, c.hash)
		}
		if x, e := tx.Decode(digits(c.bytes)); !modelSame(x, c.x) || e != api.OK {
			t.Errorf("Decode(%s) = %+v, %d", c.bytes, x, e)
		}
		checkAll(t, c.x)
	}
}

// P15.4: the fields but V, R and S, in their order; V, R and S count for nothing.
func TestFields(t *testing.T) {
	row := chance.Row(1530)
	for kind, count := range []int{6, 8, 9, 11, 10} {
		for range 100 {
			x := anyTx(&row, kind)
			items, e := tx.Fields(x)
			if len(items) != count || e != api.OK || !sameItems(items, modelTree(x).Items[:count]) {
				t.Errorf("Fields(%+v) = %v, %d", x, items, e)
			}
			x.V, x.R, x.S = anyNumber(&row), anyNumber(&row), anyNumber(&row)
			if again, e := tx.Fields(x); !sameItems(again, items) || e != api.OK {
				t.Errorf("Fields with another signature = %v, %d", again, e)
			}
			if kind == 0 { // Draft takes any Chain, and it is none of its fields
				x.Chain = anySmall(&row) >> 1
				if again, e := tx.Fields(x); !sameItems(again, items) || e != api.OK {
					t.Errorf("Fields with another Chain = %v, %d", again, e)
				}
			}
		}
	}
}

// P15.4, P15.5, P15.8: numbers of each length in each field, texts and lists around the lengths at which heads change.
func TestEncodeEdges(t *testing.T) {
	for kind := range kinds {
		for _, word := range wordsOf(kind) {
			for i := range 256 {
				x := plain(kind)
				number, isNumber := numbers(&x)[word]
				small, isSmall := smalls(&x)[word]
				switch {
				case isNumber && word != "V":
					number[i/64] = 1 << (i % 64)
				case isSmall && i < 63:
					*small = 1 << i
				default:
					continue
				}
				if kind == 0 {
					x.V = legacyV(x.Chain, i%2)
				}
				wantBoth(t, word, x, api.OK, api.OK)
			}
		}
		for _, n := range []int{0, 1, 2, 10, 20, 32, 53, 54, 55, 56, 57, 58, 200, 254, 255, 256, 257, 65535, 65536} {
			x := plain(kind)
			x.Data = bytes.Repeat([]byte{0x7f}, n)
			wantBoth(t, "Data", x, api.OK, api.OK)
			x.Data = make([]byte, n)
			x.Data = append(x.Data, 0xff)
			wantBoth(t, "Data", x, api.OK, api.OK)
			x.Data = nil
			if kind > 0 {
				x.Access = make([]api.AccessEntry, n%300)
				wantBoth(t, "Access", x, api.OK, api.OK)
				x.Access = []api.AccessEntry{{Address: api.Address{1}, Keys: make([]api.Hash, n%300)}, {}}
				wantBoth(t, "Access", x, api.OK, api.OK)
			}
			if kind == 3 && n > 0 && n < 300 {
				x.BlobHashes = slices.Repeat([]api.Hash{{1, 31: byte(n)}}, n)
				wantBoth(t, "BlobHashes", x, api.OK, api.OK)
			}
			if kind == 4 && n > 0 && n < 300 {
				x.Auths = slices.Repeat([]api.Auth{{Chain: top, Nonce: most, Parity: uint64(n % 256), R: top, S: top}}, n)
				wantBoth(t, "Auths", x, api.OK, api.OK)
			}
		}
		for b := range 256 {
			x := plain(kind)
			x.Data = []byte{byte(b)}
			wantBoth(t, "Data of one byte", x, api.OK, api.OK)
		}
	}
}

// P15.5, P15.8: by chance, there and back; transactions that are not the same have unlike bytes.
func TestThereAndBack(t *testing.T) {
	row := chance.Row(1531)
	for kind := range kinds {
		for range 600 {
			wantBoth(t, "by chance", anyTx(&row, kind), api.OK, api.OK)
		}
		x := anyTx(&row, kind)
		b, _ := tx.Encode(x)
		sound := 0
		for _, y := range otherwise(x) {
			if c, e := tx.Encode(y); e == api.OK {
				sound++
				if bytes.Equal(b, c) {
					t.Errorf("%+v and %+v have one text", x, y)
				}
			}
		}
		if sound < 256 {
			t.Errorf("type %d: only %d others", kind, sound)
		}
	}
}
