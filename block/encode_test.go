package block_test

import (
	"bytes"
	"slices"
	"strings"
	"testing"

	"waybill/api"
	"waybill/block"
	"waybill/chance"
	"waybill/header"
	"waybill/tx"
)

// checkEncode holds Encode against its model (P20.3, P0.2), goes back by Decode (P20.5, P0.8), and tells Encode's error.
func checkEncode(t *testing.T, why string, b api.Block) api.Errno {
	t.Helper()
	want, wantE := modelEncode(b)
	data, e := block.Encode(b)
	if !bytes.Equal(data, want) || e != wantE || e != api.OK && data != nil {
		t.Errorf("%s: Encode %d bytes, %d, want %d bytes, %d", why, len(data), e, len(want), wantE)
	}
	if wantE == api.OK {
		if again, e := block.Decode(want); !same(again, b) || e != api.OK {
			t.Errorf("%s: Decode of Encode: %d, %+v, want %+v", why, e, again, b)
		}
	}
	return e
}

func wantEncode(t *testing.T, why string, b api.Block, want api.Errno) {
	t.Helper()
	wantErrno(t, why, checkEncode(t, why, b), want)
}

// P20.3: the chapter's second example.
func TestExamplesOfBytes(t *testing.T) {
	for _, h := range []api.Header{{}, {Number: 5, Extra: []byte("x"), Limit: 8000000}} {
		head, _ := header.Encode(h)
		held := slices.Concat(head, digits("c0 c0"))
		want := slices.Concat(modelHead(0xc0, len(held)), held)
		if data, e := block.Encode(api.Block{Header: h}); !bytes.Equal(data, want) || e != api.OK {
			t.Errorf("a header alone: %x, %d", data, e)
		}
		wantEncode(t, "a header alone", api.Block{Header: h}, api.OK)
		wantEncode(t, "drawn, with Tail 0", api.Block{Header: h, Drawn: true}, api.ErrBkField)
	}
}

// P20.3 to P20.6, P0.9: blocks of another program's tests, their bytes written down from memory. The first one's hash was known ahead, and would show a slip; the second one's hash and those of the transactions are what this program has answered, kept so that they stay. In the second block the header is that of the first one's transaction alone.
func TestKnownBlocks(t *testing.T) {
	const (
		head   = "a083cafc574e1f51ba9dc0568fc617a08ea2429fb384059c972f13b19fa1c8dd55a01dcc4de8dec75d7aab85b567b6ccd41ad312451b948a7413f0a142fd40d49347948888f1f195afa192cfee860698584c030f4c9db1a0ef1552a40b7165c3cd773806b9e0c165b75356e0314bf0706f279c729f51e017a05fe50b260da6308036625b850b5d6ced6d0a9f814c0688bc91ffb7b7a3a54b67a0bc37d79753ad738a6dac4921e57392f145d8887476de3f783dfa7edae9283e52b90100"
		rest   = "8302000001832fefd8825208845506eb0780a0bd4472abb6659ebe3ee06ee4d7b72a00a9f4d001caca51342001075469aff49888a13a5a8c8f2bb1c4"
		oldest = "f85f800a82c35094095e7baea6a6c7c4c2dfeb977efac326af552d870a801ba09bea4c4daac7c7c52e093e6a4c35dbbcf8856f1af7b059ba20253e70848d094fa08a8fae537ce25ed8cb5af9adac3f141af69bd515bd2ba031522df09b97dd72b1"
		newer  = "b8a302f8a0018080843b9aca008301e24194095e7baea6a6c7c4c2dfeb977efac326af552d878080f838f7940000000000000000000000000000000000000001e1a0000000000000000000000000000000000000000000000000000000000000000080a0fe38ca4e44a30002ac54af7cf922a6ac2ba11b7d22f548e8ecb3f51f41cb31b0a06de6a5cbae13c0c856e33acf021b51819636cfc009d39eafb9f606d546e305a8"
	)
	filter := strings.Repeat("00", 256)
	for _, c := range []struct {
		data, name string
		txs        []string
		check      api.Errno
	}{
		{"f90260f901f9" + head + filter + rest + "f861" + oldest + "c0", "0a5843ac1cb04865017cb35a57b50b07084e5fcee39b5acadade33149f4fff9e", []string{"77b19baa4de67e45a7b26e4a220bccdbb6731885aa9927064e239ca232023215"}, api.OK},
		{"f9030bf901fe" + head + filter + rest + "843b9aca00" + "f90106" + oldest + newer + "c0", "c7252048cd273fe0dac09650027d07f0e3da4ee0675ebbb26627cea92729c372", []string{"77b19baa4de67e45a7b26e4a220bccdbb6731885aa9927064e239ca232023215", "c5a8f6026a3554e9731e6ad1c17a7450b8fe2d048cd755752cc985a89a2e125c"}, api.ErrBkTxs},
	} {
		b, e := block.Decode(digits(c.data))
		if e != api.OK || b.Drawn || len(b.Uncles) != 0 || len(b.Withdrawals) != 0 || len(b.Txs) != len(c.txs) {
			t.Fatalf("%s: %+v, %d", c.name, b, e)
		}
		if name, e := header.Hash(b.Header); name != hash(c.name) || e != api.OK {
			t.Errorf("the header's hash: %x, %d", name, e)
		}
		for i, want := range c.txs {
			if name, e := tx.Hash(b.Txs[i]); name != hash(want) || e != api.OK {
				t.Errorf("the hash of transaction %d: %x, %d", i, name, e)
			}
		}
		if data, e := block.Encode(b); !bytes.Equal(data, digits(c.data)) || e != api.OK {
			t.Errorf("%s: Encode %x, %d", c.name, data, e)
		}
		wantErrno(t, "Check", block.Check(b), c.check)
		if s, e := block.Seal(b); e != api.OK || block.Check(s) != api.OK || (c.check == api.OK) != same(s, b) {
			t.Errorf("%s: Seal %d", c.name, e)
		}
	}
}

// P20.3, P20.5: blocks with one thing of a kind, of each tail and type: a transaction of type 0 is a list, each other one a text.
func TestOneThing(t *testing.T) {
	for tail := range tails {
		bare := api.Block{Header: api.Header{Tail: tail}, Drawn: tail >= 2}
		wantEncode(t, "nothing", bare, api.OK)
		for kind := range kinds {
			b := turned(bare, func(b *api.Block) { b.Txs = []api.Tx{plainTx(kind)} })
			wantEncode(t, "one transaction", b, api.OK)
			data, _ := block.Encode(b)
			envelope, _ := tx.Encode(plainTx(kind))
			want := envelope
			if kind > 0 {
				want = slices.Concat(modelHead(0x80, len(envelope)), envelope)
			}
			want = slices.Concat(modelHead(0xc0, len(want)), want, digits("c0"))
			if tail >= 2 {
				want = append(want, 0xc0)
			}
			if !bytes.HasSuffix(data, want) {
				t.Errorf("type %d, tail %d: %x does not end with %x", kind, tail, data, want)
			}
		}
		for other := range tails {
			wantEncode(t, "one uncle", turned(bare, func(b *api.Block) { b.Uncles = []api.Header{{Tail: other}} }), api.OK)
		}
	}
}

// P20.3, P20.5, P0.8: blocks by chance, there and back; no two have one text.
func TestThereAndBack(t *testing.T) {
	row := chance.Row(2020)
	seen := map[string]bool{}
	for n := range 2000 {
		b := anyBlock(&row, n%tails)
		wantEncode(t, "by chance", b, api.OK)
		data, _ := block.Encode(b)
		seen[string(data)] = true
	}
	if len(seen) != 2000 {
		t.Errorf("only %d texts", len(seen))
	}
}

// P20.3: Drawn and the tail, with and without withdrawals.
func TestDrawn(t *testing.T) {
	for tail := range tails {
		for _, draws := range [][]api.Withdrawal{nil, {}, make([]api.Withdrawal, 0, 3), {{}}, make([]api.Withdrawal, 5)} {
			for _, drawn := range []bool{false, true} {
				want := api.ErrBkField
				if drawn == (tail >= 2) && (drawn || len(draws) == 0) {
					want = api.OK
				}
				wantEncode(t, "drawn or not", api.Block{Header: api.Header{Tail: tail}, Drawn: drawn, Withdrawals: draws}, want)
			}
		}
	}
}

// wrongs are changes of a block that make it wrong, in the order in which they are looked for: of each place one or several.
func wrongs() []struct {
	place int
	e     api.Errno
	turn  func(*api.Block)
} {
	type wrong = struct {
		place int
		e     api.Errno
		turn  func(*api.Block)
	}
	return []wrong{
		{0, api.ErrHdField, func(b *api.Block) { b.Header.Tail = 5 }},
		{0, api.ErrHdField, func(b *api.Block) { b.Header.Tail = -1 }},
		{0, api.ErrHdExtra, func(b *api.Block) { b.Header.Extra = make([]byte, 33) }},
		{1, api.ErrBkField, func(b *api.Block) { b.Drawn = b.Header.Tail < 2 }},
		{2, api.ErrBkCount, func(b *api.Block) { b.Txs = slices.Repeat(b.Txs[:1], maxList) }},
		{2, api.ErrBkCount, func(b *api.Block) { b.Uncles = slices.Repeat(b.Uncles[:1], maxList) }},
		{2, api.ErrBkCount, func(b *api.Block) {
			if b.Header.Tail >= 2 {
				b.Withdrawals = make([]api.Withdrawal, maxList)
			} else {
				b.Txs = slices.Repeat(b.Txs[:1], maxList+1)
			}
		}},
		{3, api.ErrTxType, func(b *api.Block) { b.Txs[len(b.Txs)-1].Type = -1 }},
		{3, api.ErrTxSig, func(b *api.Block) { b.Txs[0].V = api.U256{2} }},
		{3, api.ErrTxField, func(b *api.Block) { b.Txs[0].BlobHashes = []api.Hash{{1}} }},
		{3, api.ErrLong, func(b *api.Block) { b.Txs[0].Data = make([]byte, maxInput) }},
		{4, api.ErrHdField, func(b *api.Block) { b.Uncles[len(b.Uncles)-1].Tail = -1 }},
		{4, api.ErrHdExtra, func(b *api.Block) { b.Uncles[0].Extra = make([]byte, 33) }},
		{5, api.ErrLong, func(b *api.Block) { b.Txs[1].Data = make([]byte, maxInput-1000) }},
	}
}

// P20.3, P20.6, P20.7, P20.8, P0.1, P0.2: every two wrong things of a block, and each alone: the first one in the chapter's order is its fault, of every call.
func TestFaults(t *testing.T) {
	all := wrongs()
	for _, tail := range []int{1, 2} {
		right := full(tail)
		for i, first := range all {
			for j, second := range all[i:] {
				if j > 0 && first.place == second.place {
					continue
				}
				b := right
				b.Txs, b.Uncles = slices.Clone(b.Txs), slices.Clone(b.Uncles)
				first.turn(&b)
				second.turn(&b) // where the first one has put many things in, it is one of these that is turned
				data, e := block.Encode(b)
				sealed, f := block.Seal(b)
				if data != nil || !isNone(sealed) || e != first.e || f != first.e || block.Check(b) != first.e || block.CheckReceipts(b, make([]api.Receipt, 1)) != first.e {
					t.Errorf("tail %d, wrong %d and %d: Encode %d, Seal %d, Check %d, want %d", tail, i, i+j, e, f, block.Check(b), first.e)
				}
			}
		}
	}
}

// P20.3: of several wrong transactions, or uncles, the first one counts.
func TestFirstFault(t *testing.T) {
	wrongs := wrongTxs()
	for _, x := range wrongs {
		want := tx.Check(x)
		for _, y := range wrongs {
			wantEncode(t, "wrong transactions", api.Block{Txs: []api.Tx{plainTx(1), x, plainTx(2), y}}, want)
			wantEncode(t, "a wrong transaction and a wrong uncle", api.Block{Txs: []api.Tx{x, y}, Uncles: []api.Header{{Tail: 9}}}, want)
		}
	}
	for _, h := range wrongHeaders() {
		for _, g := range wrongHeaders() {
			wantEncode(t, "wrong uncles", api.Block{Uncles: []api.Header{{Tail: 1}, h, {}, g}}, header.Check(h))
		}
	}
}

// P20.3: one fewer than MaxList of each kind is taken, and MaxList is not.
func TestEncodeCounts(t *testing.T) {
	bare := api.Block{Header: api.Header{Tail: 2}, Drawn: true}
	for _, c := range []struct {
		n    int
		want api.Errno
	}{{maxList - 1, api.OK}, {maxList, api.ErrBkCount}} {
		wantEncode(t, "transactions", turned(bare, func(b *api.Block) { b.Txs = slices.Repeat([]api.Tx{plainTx(0)}, c.n) }), c.want)
		wantEncode(t, "withdrawals", turned(bare, func(b *api.Block) { b.Withdrawals = make([]api.Withdrawal, c.n) }), c.want)
	}
	wantEncode(t, "65535 uncles", turned(bare, func(b *api.Block) { b.Uncles = make([]api.Header, maxList-1) }), api.ErrLong)
	wantEncode(t, "65536 uncles", turned(bare, func(b *api.Block) { b.Uncles = make([]api.Header, maxList) }), api.ErrBkCount)
}

// stretched tells a block with so much Data in a transaction that the block has just so many bytes.
func stretched(t *testing.T, b api.Block, place, size int) api.Block {
	t.Helper()
	b.Txs = slices.Clone(b.Txs)
	b.Txs[place].Data = make([]byte, 1<<20) // so the heads have their full lengths, or nearly
	for range 3 {
		b.Txs[place].Data = make([]byte, len(b.Txs[place].Data)+size-modelSize(modelTree(b)))
	}
	if got := modelSize(modelTree(b)); got != size {
		t.Fatalf("a block of %d bytes, not %d", got, size)
	}
	return b
}

// P20.3 to P20.7, P0.7, P0.8: a block of just MaxInput bytes is written, read and sealed, one of a byte more is not, whether a transaction of type 0 or another one is long.
func TestLongBlocks(t *testing.T) {
	for _, tail := range []int{1, 4} {
		for place := range 2 {
			fits := stretched(t, full(tail), place, maxInput)
			wantEncode(t, "MaxInput bytes", fits, api.OK)
			s, e := block.Seal(fits)
			if e != api.OK || block.Check(s) != api.OK {
				t.Errorf("tail %d, place %d, MaxInput bytes: Seal %d, Check %d", tail, place, e, block.Check(s))
			}
			long := stretched(t, full(tail), place, maxInput+1)
			wantEncode(t, "a byte more", long, api.ErrLong)
			if s, e := block.Seal(long); !isNone(s) || e != api.ErrLong || block.Check(long) != api.ErrLong {
				t.Errorf("tail %d, place %d, a byte more: Seal %d, Check %d", tail, place, e, block.Check(long))
			}
			if b, e := block.Decode(modelBytes(modelTree(long))); !isNone(b) || e != api.ErrLong {
				t.Errorf("tail %d, place %d, a byte more: Decode %d", tail, place, e)
			}
		}
	}
}

// P20.3, P0.7: a transaction of MaxInput bytes is well-formed, but no block has room for it; nor for many uncles or many lists together.
func TestFarTooLong(t *testing.T) {
	envelope := func(x api.Tx) int { b, _ := tx.Encode(x); return len(b) }
	for _, kind := range []int{0, 2} {
		x := plainTx(kind)
		x.Data = make([]byte, 1<<20)
		x.Data = make([]byte, len(x.Data)+maxInput-envelope(x))
		if n := envelope(x); n != maxInput {
			t.Fatalf("a transaction of %d bytes", n)
		}
		wantEncode(t, "a transaction of MaxInput bytes", api.Block{Txs: []api.Tx{x}}, api.ErrLong)
		wantEncode(t, "ten of them", api.Block{Txs: slices.Repeat([]api.Tx{x}, 10)}, api.ErrLong)
		wantEncode(t, "ten of them and a wrong one", api.Block{Txs: append(slices.Repeat([]api.Tx{x}, 10), api.Tx{Type: 9})}, api.ErrTxType)
		wantEncode(t, "ten of them and a wrong uncle", api.Block{Txs: slices.Repeat([]api.Tx{x}, 10), Uncles: []api.Header{{Tail: 9}}}, api.ErrHdField)
	}
	uncles := manyUncles(t, maxInput)
	wantEncode(t, "uncles of MaxInput bytes", api.Block{Uncles: uncles}, api.ErrLong)
	if s, e := block.Seal(api.Block{Uncles: uncles}); !isNone(s) || e != api.ErrLong {
		t.Errorf("uncles of MaxInput bytes: Seal %d", e)
	}
	if s, e := block.Seal(api.Block{Uncles: append(uncles, api.Header{})}); !isNone(s) || e != api.ErrLong {
		t.Errorf("uncles of more than MaxInput bytes: Seal %d", e)
	}
	half := make([]byte, maxInput/2)
	wantEncode(t, "each list fits, the block does not", api.Block{Txs: []api.Tx{{Type: 1, Data: half}}, Uncles: manyUncles(t, maxInput/2)}, api.ErrLong)
}
