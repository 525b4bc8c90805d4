package header_test

import (
	"bytes"
	"slices"
	"testing"

	"waybill/api"
	"waybill/chance"
	"waybill/header"
	"waybill/rlp"
)

// checkBytes holds Check, Item, Encode and Hash against their models (P19.1, P19.2, P0.2), goes back by Parse and Decode (P19.4, P0.8), and tells Check's error.
func checkBytes(t *testing.T, h api.Header) api.Errno {
	t.Helper()
	want := modelCheck(h)
	tree, _ := modelItem(h)
	name, _ := modelHash(h)
	if e := header.Check(h); e != want {
		t.Errorf("Check(%+v) = %d, want %d", h, e, want)
	}
	it, e := header.Item(h)
	if !same(it, tree) || e != want {
		t.Errorf("Item(%+v) = %v, %d, want %v, %d", h, it, e, tree, want)
	}
	if got, e := header.Hash(h); got != name || e != want {
		t.Errorf("Hash(%+v) = %x, %d, want %x, %d", h, got, e, name, want)
	}
	b, e := header.Encode(h)
	if e != want {
		t.Errorf("Encode(%+v): %d, want %d", h, e, want)
	}
	if want != api.OK {
		if b != nil {
			t.Errorf("Encode(%+v) = %x beside an error", h, b)
		}
		return want
	}
	if !bytes.Equal(b, modelBytes(tree)) {
		t.Errorf("Encode(%+v) = %x, want %x", h, b, modelBytes(tree))
	}
	if again, e := header.Decode(b); !sameHeader(again, h) || e != api.OK {
		t.Errorf("Decode(%x) = %+v, %d, want %+v", b, again, e, h)
	}
	if again, e := header.Parse(it); !sameHeader(again, h) || e != api.OK {
		t.Errorf("Parse(%v) = %+v, %d, want %+v", it, again, e, h)
	}
	return want
}

func wantCheck(t *testing.T, why string, h api.Header, want api.Errno) {
	t.Helper()
	if e := checkBytes(t, h); e != want {
		t.Errorf("%s: %d, want %d", why, e, want)
	}
}

// P19.1 to P19.3: the chapter's first two examples.
func TestExamplesOfBytes(t *testing.T) {
	zeros := func(n int) []byte { return make([]byte, n) }
	first := slices.Concat(digits("f901ed a0"), zeros(32), digits("a0"), zeros(32), digits("94"), zeros(20), digits("a0"), zeros(32), digits("a0"), zeros(32), digits("a0"), zeros(32), digits("b90100"), zeros(256), digits("80 80 80 80 80 80 a0"), zeros(32), digits("88"), zeros(8))
	if b, e := header.Encode(api.Header{}); !bytes.Equal(b, first) || len(b) != 496 || e != api.OK {
		t.Errorf("of zeros: %x, %d", b, e)
	}
	second := slices.Concat(digits("f901ee"), first[3:], digits("80"))
	if b, e := header.Encode(api.Header{Tail: 1}); !bytes.Equal(b, second) || e != api.OK {
		t.Errorf("of zeros with Tail 1: %x, %d", b, e)
	}
	for tail, size := range []int{496, 497, 530, 565, 598} {
		b, e := header.Encode(api.Header{Tail: tail})
		if len(b) != size || e != api.OK || !bytes.Equal(b[3:496], first[3:]) {
			t.Errorf("of zeros with Tail %d: %d bytes, %d", tail, len(b), e)
		}
	}
	wantCheck(t, "Tail 0 with a BaseFee", api.Header{BaseFee: api.U256{1}}, api.ErrHdField)
	wantCheck(t, "Tail 5", api.Header{Tail: 5}, api.ErrHdField)
	wantCheck(t, "Tail 2 with a Beacon", api.Header{Tail: 2, Beacon: api.Hash{1}}, api.ErrHdField)
	wantCheck(t, "an Extra of 33 bytes", api.Header{Extra: make([]byte, 33)}, api.ErrHdExtra)
	wantParse(t, list(slices.Repeat([]api.Item{text()}, 18)...), api.ErrHdFields)
	wantParse(t, text(), api.ErrRlpKind)
}

// P19.2, P19.6, P19.9: headers of Ethereum's chains whose hashes are known; all was written down from memory, and the hashes would show a slip.
func TestKnown(t *testing.T) {
	genesis := api.Header{Uncles: noUncles, State: hash("d7f8974fb5ac78d9ac099b9ad5018bedc2ce0a72dad1827a1709da30580f0544"), TxRoot: noEntries, ReceiptRoot: noEntries, Difficulty: api.U256{17179869184}, Limit: 5000, Extra: digits("11bbe8db4e347b4e8c937c1c8370e4b5ed33adb3db69cbdb7a38e1e50b1b82fa"), Nonce: [8]byte{7: 0x42}}
	first := api.Header{Parent: hash("d4e56740f876aef8c010b86a40d5f56745a118d0906a34e69aec8c0db1cb8fa3"), Uncles: noUncles, Coinbase: api.Address(digits("05a56e2d52c817161883f50c441c3228cfe54d9f")), State: hash("d67e4d450343046425ae4271474353857ab860dbc0a1dde64b41b5cd3a532bf3"), TxRoot: noEntries, ReceiptRoot: noEntries, Difficulty: api.U256{17171480576}, Number: 1, Limit: 5000, Time: 1438269988, Extra: []byte("Geth/v1.0.0/linux/go1.4.2"), Mix: hash("969b900de27b6ac6a67742365dd65f55a0526c41fd18e1b16f1a1215c2e66f59"), Nonce: [8]byte(digits("539bd4979fef1ec4"))}
	holesky := api.Header{Uncles: noUncles, State: hash("69d8c9d72f6fa4ad42d4702b433707212f90db395eb54dc20bc85de253788783"), TxRoot: noEntries, ReceiptRoot: noEntries, Difficulty: api.U256{1}, Limit: 25000000, Time: 1695902100, Nonce: [8]byte{6: 0x12, 7: 0x34}, Tail: 1, BaseFee: api.U256{1000000000}}
	hoodi := api.Header{Uncles: noUncles, State: hash("da87d7f5f91c51508791bbcbd4aa5baf04917830b86985eeb9ad3d5bfb657576"), TxRoot: noEntries, ReceiptRoot: noEntries, Difficulty: api.U256{1}, Limit: 36000000, Time: 1742212800, Nonce: [8]byte{6: 0x12, 7: 0x34}, Tail: 3, BaseFee: api.U256{1000000000}, Withdrawals: noEntries}
	for _, c := range []struct {
		name string
		h    api.Header
		want string
	}{
		{"mainnet 0", genesis, "d4e56740f876aef8c010b86a40d5f56745a118d0906a34e69aec8c0db1cb8fa3"},
		{"mainnet 1", first, "88e96d4537bea4d9c05d12549907b32561d3bf31f45aae734cdc119f13406cb6"},
		{"holesky 0", holesky, "b5f7f912443c940f21fd611f12828d75b534364ed9e95ca4e307729a4661bde4"},
		{"hoodi 0", hoodi, "bbe312868b376a3001692a646dd2d7d1e4406380dfd86b98aa8a34d1557c971b"},
	} {
		if got, e := header.Hash(c.h); got != hash(c.want) || e != api.OK {
			t.Errorf("%s: %x, %d", c.name, got, e)
		}
		wantCheck(t, c.name, c.h, api.OK)
	}
	if n, e := header.Chain([]api.Header{genesis, first}); n != 2 || e != api.OK {
		t.Errorf("mainnet's first two: %d, %d", n, e)
	}
}

// P19.1: each tail, and what is none; each field that came later, beside each tail, in its first and last bits.
func TestTails(t *testing.T) {
	for _, tail := range []int{-1 << 63, -5, -2, -1, 5, 6, 7, 21, 256, 1 << 32, 1<<63 - 1} {
		wantCheck(t, "no tail", api.Header{Tail: tail}, api.ErrHdField)
		wantCheck(t, "no tail, a long Extra", api.Header{Tail: tail, Extra: make([]byte, 33)}, api.ErrHdField)
	}
	later := []struct {
		from int
		put  []func(*api.Header)
	}{
		{1, []func(*api.Header){func(h *api.Header) { h.BaseFee = api.U256{1} }, func(h *api.Header) { h.BaseFee = api.U256{3: 1 << 63} }, func(h *api.Header) { h.BaseFee = api.U256{1: 1} }}},
		{2, []func(*api.Header){func(h *api.Header) { h.Withdrawals[0] = 1 }, func(h *api.Header) { h.Withdrawals[31] = 0x80 }}},
		{3, []func(*api.Header){func(h *api.Header) { h.BlobUsed = 1 }, func(h *api.Header) { h.BlobUsed = 1 << 63 }}},
		{3, []func(*api.Header){func(h *api.Header) { h.BlobExcess = 1 }, func(h *api.Header) { h.BlobExcess = 1 << 63 }}},
		{3, []func(*api.Header){func(h *api.Header) { h.Beacon[0] = 1 }, func(h *api.Header) { h.Beacon[31] = 0x80 }}},
		{4, []func(*api.Header){func(h *api.Header) { h.Requests[0] = 1 }, func(h *api.Header) { h.Requests[31] = 0x80 }}},
	}
	for tail := range tails {
		wantCheck(t, "zeros", api.Header{Tail: tail}, api.OK)
		for _, field := range later {
			want := api.OK
			if tail < field.from {
				want = api.ErrHdField
			}
			for _, put := range field.put {
				h := api.Header{Tail: tail}
				put(&h)
				wantCheck(t, "a later field", h, want)
				h.Extra = make([]byte, 32)
				wantCheck(t, "a later field beside an Extra", h, want)
				if h.Extra = make([]byte, 33); want == api.OK {
					wantCheck(t, "a later field and a long Extra", h, api.ErrHdExtra)
				} else {
					wantCheck(t, "a wrong field and a long Extra", h, api.ErrHdField)
				}
			}
		}
	}
}

// P19.1: texts of each length as Extra, with each tail.
func TestExtra(t *testing.T) {
	for tail := range tails {
		for n := range 70 {
			want := api.OK
			if n > 32 {
				want = api.ErrHdExtra
			}
			for _, b := range []byte{0, 1, 0x7f, 0x80, 0xff} {
				wantCheck(t, "Extra", api.Header{Tail: tail, Extra: bytes.Repeat([]byte{b}, n)}, want)
			}
		}
		wantCheck(t, "a very long Extra", api.Header{Tail: tail, Extra: make([]byte, 1<<20)}, api.ErrHdExtra)
	}
}

// P19.2: each field stands at its place on the wire, alone: the others are zero there.
func TestPlaces(t *testing.T) {
	fill := func(b []byte) {
		for i := range b {
			b[i] = byte(200 - i)
		}
	}
	big := api.U256{5, 6, 7, 8}
	for i, put := range []func(*api.Header){
		func(h *api.Header) { fill(h.Parent[:]) }, func(h *api.Header) { fill(h.Uncles[:]) }, func(h *api.Header) { fill(h.Coinbase[:]) },
		func(h *api.Header) { fill(h.State[:]) }, func(h *api.Header) { fill(h.TxRoot[:]) }, func(h *api.Header) { fill(h.ReceiptRoot[:]) }, func(h *api.Header) { fill(h.Bloom[:]) },
		func(h *api.Header) { h.Difficulty = big }, func(h *api.Header) { h.Number = 300 }, func(h *api.Header) { h.Limit = 301 }, func(h *api.Header) { h.Used = 302 }, func(h *api.Header) { h.Time = 303 },
		func(h *api.Header) { h.Extra = []byte("extra") }, func(h *api.Header) { fill(h.Mix[:]) }, func(h *api.Header) { fill(h.Nonce[:]) },
		func(h *api.Header) { h.BaseFee = big }, func(h *api.Header) { fill(h.Withdrawals[:]) }, func(h *api.Header) { h.BlobUsed = 304 }, func(h *api.Header) { h.BlobExcess = 305 },
		func(h *api.Header) { fill(h.Beacon[:]) }, func(h *api.Header) { fill(h.Requests[:]) },
	} {
		for tail := range tails {
			if i >= fieldCounts[tail] {
				continue
			}
			h := api.Header{Tail: tail}
			put(&h)
			wantCheck(t, "one field", h, api.OK)
			it, e := header.Item(h)
			bare, f := header.Item(api.Header{Tail: tail})
			if e != api.OK || f != api.OK || len(it.Items) != fieldCounts[tail] || len(bare.Items) != fieldCounts[tail] {
				t.Fatalf("field %d, tail %d: %d, %d", i, tail, e, f)
			}
			for j := range it.Items {
				if same(it.Items[j], bare.Items[j]) != (i != j) {
					t.Errorf("field %d, tail %d: item %d is %v", i, tail, j, it.Items[j])
				}
			}
		}
	}
}

// P19.2, P19.4: the numbers at which an item's length changes, in each field that is a number.
func TestNumbers(t *testing.T) {
	for shift := range 65 {
		for _, v := range []uint64{1<<shift - 1, 1 << shift, 1<<shift + 1} {
			for tail := range tails {
				wantCheck(t, "Number", api.Header{Number: v, Tail: tail}, api.OK)
				wantCheck(t, "Limit", api.Header{Limit: v, Tail: tail}, api.OK)
				wantCheck(t, "Used", api.Header{Used: v, Tail: tail}, api.OK)
				wantCheck(t, "Time", api.Header{Time: v, Tail: tail}, api.OK)
			}
			wantCheck(t, "BlobUsed", api.Header{BlobUsed: v, Tail: 3}, api.OK)
			wantCheck(t, "BlobExcess", api.Header{BlobExcess: v, Tail: 4}, api.OK)
		}
	}
	for shift := range 256 {
		v := api.U256{}
		v[shift/64] = 1 << (shift % 64)
		for _, v := range []api.U256{v, narrow(wide(v).Sub(wide(v), wide(api.U256{1}))), top} {
			wantCheck(t, "Difficulty", api.Header{Difficulty: v}, api.OK)
			wantCheck(t, "BaseFee", api.Header{BaseFee: v, Tail: 1}, api.OK)
			wantCheck(t, "both", api.Header{Difficulty: v, BaseFee: v, Tail: 2}, api.OK)
		}
	}
}

// P19.2, P19.4, P0.8: headers by chance, there and back, right and wrong ones; no two have one text.
func TestThereAndBack(t *testing.T) {
	row := chance.Row(1910)
	seen, counts := map[string]bool{}, map[api.Errno]int{}
	for n := range 5000 {
		h := anyHeader(&row, n%tails)
		wantCheck(t, "by chance", h, api.OK)
		b, _ := header.Encode(h)
		seen[string(b)] = true
		wrong := h
		wrong.Tail = row.Below(8) - 1
		wrong.Extra = row.Text(row.Below(36))
		counts[checkBytes(t, wrong)]++
	}
	if len(seen) < 4990 {
		t.Errorf("only %d texts", len(seen))
	}
	for _, e := range []api.Errno{api.OK, api.ErrHdField, api.ErrHdExtra} {
		if counts[e] < 50 {
			t.Errorf("the answer %d hardly ever comes: %v", e, counts)
		}
	}
}

// P19.2: a header's bytes are those of its item, and the greatest header is far from MaxInput.
func TestGreatest(t *testing.T) {
	h := api.Header{Difficulty: top, Number: most, Limit: most, Used: most, Time: most, Extra: make([]byte, 32), Tail: 4, BaseFee: top, BlobUsed: most, BlobExcess: most}
	wantCheck(t, "the greatest", h, api.OK)
	b, _ := header.Encode(h)
	it, _ := header.Item(h)
	c, e := rlp.Encode(it)
	if !bytes.Equal(b, c) || e != api.OK || len(b) != 598+32+32+6*8+32 {
		t.Errorf("the greatest: %d bytes, %d of its item, %d", len(b), len(c), e)
	}
}
