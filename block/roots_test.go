package block_test

import (
	"bytes"
	"slices"
	"testing"

	"waybill/api"
	"waybill/block"
	"waybill/chance"
	"waybill/keccak"
	"waybill/receipt"
	"waybill/trie"
	"waybill/tx"
)

// checkRoot holds a call's answer against what is wanted; beside an error there is no hash (P0.2).
func checkRoot(t *testing.T, why string, got api.Hash, e api.Errno, want api.Hash, wantE api.Errno) {
	t.Helper()
	if got != want || e != wantE {
		t.Errorf("%s: %x, %d, want %x, %d", why, got, e, want, wantE)
	}
}

func checkTxRoot(t *testing.T, why string, txs []api.Tx) api.Errno {
	t.Helper()
	want, wantE := modelTxRoot(txs)
	got, e := block.TxRoot(txs)
	checkRoot(t, "TxRoot, "+why, got, e, want, wantE)
	return e
}

func checkReceiptRoot(t *testing.T, why string, receipts []api.Receipt) api.Errno {
	t.Helper()
	want, wantE := modelReceiptRoot(receipts)
	got, e := block.ReceiptRoot(receipts)
	checkRoot(t, "ReceiptRoot, "+why, got, e, want, wantE)
	return e
}

func checkDrawRoot(t *testing.T, why string, draws []api.Withdrawal) api.Errno {
	t.Helper()
	want, wantE := modelDrawRoot(draws)
	got, e := block.WithdrawalRoot(draws)
	checkRoot(t, "WithdrawalRoot, "+why, got, e, want, wantE)
	return e
}

func checkUncleHash(t *testing.T, why string, uncles []api.Header) api.Errno {
	t.Helper()
	want, wantE := modelUncleHash(uncles)
	got, e := block.UncleHash(uncles)
	checkRoot(t, "UncleHash, "+why, got, e, want, wantE)
	return e
}

func wantErrno(t *testing.T, why string, got, want api.Errno) {
	t.Helper()
	if got != want {
		t.Errorf("%s: %d, want %d", why, got, want)
	}
}

// P20.1, P20.2: the chapter's first example; nil and empty lists are the same (P0.4).
func TestExamplesOfRoots(t *testing.T) {
	for range 2 {
		a, e := block.TxRoot(nil)
		checkRoot(t, "TxRoot of none", a, e, noEntries, api.OK)
		a, e = block.TxRoot(make([]api.Tx, 0, 4))
		checkRoot(t, "TxRoot of none", a, e, noEntries, api.OK)
		a, e = block.ReceiptRoot(nil)
		checkRoot(t, "ReceiptRoot of none", a, e, noEntries, api.OK)
		a, e = block.ReceiptRoot(make([]api.Receipt, 0, 4))
		checkRoot(t, "ReceiptRoot of none", a, e, noEntries, api.OK)
		a, e = block.WithdrawalRoot(nil)
		checkRoot(t, "WithdrawalRoot of none", a, e, noEntries, api.OK)
		a, e = block.WithdrawalRoot(make([]api.Withdrawal, 0, 4))
		checkRoot(t, "WithdrawalRoot of none", a, e, noEntries, api.OK)
		a, e = block.UncleHash(nil)
		checkRoot(t, "UncleHash of none", a, e, noUncles, api.OK)
		a, e = block.UncleHash(make([]api.Header, 0, 4))
		checkRoot(t, "UncleHash of none", a, e, noUncles, api.OK)
	}
	if trie.Empty() != noEntries {
		t.Error("trie.Empty")
	}
}

// P20.1: the roots of mainnet's block 46147, the first with a transaction, written down from memory; the hashes would show a slip.
func TestKnownRoots(t *testing.T) {
	first := api.Tx{Price: number("2d79883d2000"), Gas: 21000, To: api.Address(digits("5df9b87991262f6ba471f09758cde1c0fc1de734")), Value: api.U256{31337}, V: api.U256{28}, R: number("88ff6cf0fefd94db46111149ae4bfc179e9b94721fffd821d38d16464b3f71d0"), S: number("45e0aff800961cfce805daef7016b9b675c137a6a41a548f7b60a3484c06a33a")}
	name, e := tx.Hash(first)
	checkRoot(t, "its hash", name, e, hash("5c504ed432cb51138bcf09aa5e8a410dd4a1e204ef84bfed1be16dfba1b22060"), api.OK)
	root, e := block.TxRoot([]api.Tx{first})
	checkRoot(t, "the transactions' root", root, e, hash("4513310fcb9f6f616972a3b948dc5d547f280849a87ebb5af0191f98b87be598"), api.OK)
	root, e = block.ReceiptRoot([]api.Receipt{{Rooted: true, Root: hash("96a8e009d2b88b1483e6941e6812e32263b05683fac202abc622a3e31aed1957"), Used: 21000}})
	checkRoot(t, "the receipts' root", root, e, hash("fe2bf2a941abf41d72637e5b91750332a30283efd40c424dc522b77e6f0ed8c4"), api.OK)
}

// P20.1: the item of a withdrawal, byte by byte: one alone is the value of a leaf under the key 80, whose path is 20 80 packed.
func TestWithdrawalBytes(t *testing.T) {
	for _, c := range []struct {
		w    api.Withdrawal
		want string
	}{
		{api.Withdrawal{}, "d8 80 80 94 0000000000000000000000000000000000000000 80"},
		{api.Withdrawal{Index: 1, Validator: 0x7f, Address: api.Address{0: 0xaa, 19: 0xbb}, Amount: 0x80}, "d9 01 7f 94 aa000000000000000000000000000000000000bb 8180"},
		{api.Withdrawal{Index: 0x100, Validator: 0xffff, Address: api.Address{19: 1}, Amount: most}, "e4 820100 82ffff 94 0000000000000000000000000000000000000001 88ffffffffffffffff"},
		{api.Withdrawal{Index: most, Validator: most, Address: api.Address{19: 1}, Amount: most}, "f0 88ffffffffffffffff 88ffffffffffffffff 94 0000000000000000000000000000000000000001 88ffffffffffffffff"},
	} {
		item := digits(c.want)
		leaf := slices.Concat(digits("822080"), modelHead(0x80, len(item)), item)
		leaf = slices.Concat(modelHead(0xc0, len(leaf)), leaf)
		got, e := block.WithdrawalRoot([]api.Withdrawal{c.w})
		checkRoot(t, "one withdrawal", got, e, keccak.Sum(leaf), api.OK)
		checkDrawRoot(t, "one withdrawal", []api.Withdrawal{c.w})
		b := api.Block{Header: api.Header{Tail: 2}, Drawn: true, Withdrawals: []api.Withdrawal{c.w}}
		data, e := block.Encode(b)
		if want := slices.Concat(digits("c0c0"), modelHead(0xc0, len(item)), item); !bytes.HasSuffix(data, want) || e != api.OK {
			t.Errorf("a block with one withdrawal ends with %x, want %x", data[max(0, len(data)-60):], want)
		}
	}
}

// P20.1, P20.2, P0.12: lists of many lengths: the keys change theirs at 1, 128 and 256 things.
func TestRootsOfLists(t *testing.T) {
	row := chance.Row(2010)
	var txs []api.Tx
	var receipts []api.Receipt
	var draws []api.Withdrawal
	var uncles []api.Header
	seen, lengths := map[api.Hash]bool{}, 0
	for n := range 270 {
		if n < 25 || n > 120 && n < 135 || n > 250 {
			lengths++
			for _, e := range []api.Errno{checkTxRoot(t, "by chance", txs), checkReceiptRoot(t, "by chance", receipts), checkDrawRoot(t, "by chance", draws), checkUncleHash(t, "by chance", uncles)} {
				wantErrno(t, "well-formed ones", e, api.OK)
			}
			a, _ := block.TxRoot(txs)
			b, _ := block.ReceiptRoot(receipts)
			c, _ := block.WithdrawalRoot(draws)
			d, _ := block.UncleHash(uncles)
			seen[a], seen[b], seen[c], seen[d] = true, true, true, true
		}
		txs, receipts = append(txs, anyTx(&row, n%kinds)), append(receipts, anyReceipt(&row, n%kinds, anySmall(&row)))
		draws, uncles = append(draws, anyDraw(&row)), append(uncles, anyUncle(&row))
	}
	if want := 4*(lengths-1) + 2; len(seen) != want { // those of nothing are two
		t.Errorf("%d roots, want %d", len(seen), want)
	}
}

// P20.1: the order counts, and so does a thing that stands twice.
func TestOrderCounts(t *testing.T) {
	a, b := api.Withdrawal{Index: 1}, api.Withdrawal{Index: 2}
	seen := map[api.Hash]bool{}
	for _, draws := range [][]api.Withdrawal{{a}, {b}, {a, b}, {b, a}, {a, a}, {a, b, b}} {
		root, _ := block.WithdrawalRoot(draws)
		seen[root] = true
	}
	x, y := api.Header{Number: 1}, api.Header{Number: 2}
	for _, uncles := range [][]api.Header{{x}, {y}, {x, y}, {y, x}, {x, x}, {x, y, y}} {
		digest, _ := block.UncleHash(uncles)
		seen[digest] = true
	}
	if len(seen) != 12 {
		t.Errorf("%d roots of 12 lists", len(seen))
	}
}

// wrongTxs are refused, each with an error of its own, ErrLong among them.
func wrongTxs() []api.Tx {
	return []api.Tx{
		{Type: 9}, {Type: 2, Price: api.U256{1}}, {Type: 1, Chain: 1 << 63}, {Type: 3, Create: true, BlobHashes: []api.Hash{{1}}}, {Type: 4},
		{Type: 4, Auths: []api.Auth{{Parity: 256}}}, {Type: 0}, {Type: 2, Data: make([]byte, maxInput)},
	}
}

func wrongReceipts() []api.Receipt {
	return []api.Receipt{{Type: 5}, {Type: -1}, {Status: 2}, {Logs: []api.Log{{Topics: make([]api.Hash, 5)}}}, {Bloom: api.Bloom{1}}, longReceipt()}
}

// longReceipt tells a well-formed receipt whose envelope is too long.
func longReceipt() api.Receipt {
	logs := []api.Log{{Data: make([]byte, maxInput)}}
	return api.Receipt{Logs: logs, Bloom: receipt.BloomOf(logs)}
}

func wrongHeaders() []api.Header {
	return []api.Header{{Tail: 5}, {Tail: -1}, {BaseFee: api.U256{1}}, {Extra: make([]byte, 33)}}
}

// P20.1, P20.2, P0.2: the first one in order that has an error tells it, wherever it stands.
func TestFirstError(t *testing.T) {
	for i, x := range wrongTxs() {
		_, want := tx.Encode(x)
		for _, y := range append(wrongTxs(), plainTx(1)) {
			for _, txs := range [][]api.Tx{{x}, {x, y}, {plainTx(0), x, y}, {plainTx(3), plainTx(4), plainTx(2), x, y, y}} {
				wantErrno(t, "a wrong transaction", checkTxRoot(t, "a wrong one", txs), want)
			}
		}
		if want == api.OK {
			t.Errorf("transaction %d is not wrong", i)
		}
	}
	for i, r := range wrongReceipts() {
		_, want := receipt.Encode(r)
		for _, s := range append(wrongReceipts(), api.Receipt{}) {
			for _, receipts := range [][]api.Receipt{{r}, {r, s}, {{}, {Type: 4, Used: 5}, r, s}} {
				wantErrno(t, "a wrong receipt", checkReceiptRoot(t, "a wrong one", receipts), want)
			}
		}
		if want == api.OK {
			t.Errorf("receipt %d is not wrong", i)
		}
	}
	for i, h := range wrongHeaders() {
		want := api.ErrHdField
		if i == 3 {
			want = api.ErrHdExtra
		}
		for _, g := range append(wrongHeaders(), api.Header{}) {
			for _, uncles := range [][]api.Header{{h}, {h, g}, {{}, {Tail: 4}, h, g}} {
				wantErrno(t, "a wrong header", checkUncleHash(t, "a wrong one", uncles), want)
			}
		}
	}
}

// P20.1, P20.2, P0.12: one thing fewer than MaxList is taken, MaxList and more are not, whatever is wrong in them.
func TestCounts(t *testing.T) {
	wantErrno(t, "65535 transactions", checkTxRoot(t, "65535", slices.Repeat([]api.Tx{plainTx(2)}, maxList-1)), api.OK)
	wantErrno(t, "65535 receipts", checkReceiptRoot(t, "65535", make([]api.Receipt, maxList-1)), api.OK)
	wantErrno(t, "65535 withdrawals", checkDrawRoot(t, "65535", make([]api.Withdrawal, maxList-1)), api.OK)
	wantErrno(t, "65535 uncles", checkUncleHash(t, "65535", make([]api.Header, maxList-1)), api.ErrLong)
	for _, n := range []int{maxList, maxList + 1, 3 * maxList} {
		wantErrno(t, "too many transactions", checkTxRoot(t, "too many", slices.Repeat([]api.Tx{plainTx(2)}, n)), api.ErrBkCount)
		wantErrno(t, "too many wrong transactions", checkTxRoot(t, "too many", slices.Repeat([]api.Tx{{Type: 9}}, n)), api.ErrBkCount)
		wantErrno(t, "too many receipts", checkReceiptRoot(t, "too many", make([]api.Receipt, n)), api.ErrBkCount)
		wantErrno(t, "too many wrong receipts", checkReceiptRoot(t, "too many", slices.Repeat([]api.Receipt{{Type: 9}}, n)), api.ErrBkCount)
		wantErrno(t, "too many withdrawals", checkDrawRoot(t, "too many", make([]api.Withdrawal, n)), api.ErrBkCount)
		wantErrno(t, "too many uncles", checkUncleHash(t, "too many", make([]api.Header, n)), api.ErrBkCount)
		wantErrno(t, "too many wrong uncles", checkUncleHash(t, "too many", slices.Repeat([]api.Header{{Tail: 9}}, n)), api.ErrBkCount)
	}
}

// manyUncles tells uncles whose list has just so many bytes, by their Extra.
func manyUncles(t *testing.T, size int) []api.Header {
	t.Helper()
	const one = 496 // bytes of a header of zeros
	left := size - 4
	var uncles []api.Header
	for left >= 2*one {
		uncles, left = append(uncles, api.Header{}), left-one
	}
	for i := range uncles { // a text of n bytes, the first one not below 80, has n more than none
		n := min(left-one, 32)
		uncles[i].Extra, left = bytes.Repeat([]byte{0xff}, n), left-n
	}
	uncles = append(uncles, api.Header{})
	whole := list()
	for _, h := range uncles {
		whole.Items = append(whole.Items, modelTree(api.Block{Header: h}).Items[0])
	}
	if got := modelSize(whole); got != size {
		t.Fatalf("a list of %d bytes, not %d", got, size)
	}
	return uncles
}

// P20.2, P0.7: a list of just MaxInput bytes is hashed, one of a byte more is not; what is wrong in a header counts ahead of the length, wherever it stands.
func TestLongUncles(t *testing.T) {
	wantErrno(t, "MaxInput bytes", checkUncleHash(t, "MaxInput bytes", manyUncles(t, maxInput)), api.OK)
	long := manyUncles(t, maxInput+1)
	wantErrno(t, "a byte more", checkUncleHash(t, "a byte more", long), api.ErrLong)
	for _, i := range []int{0, len(long) / 2, len(long) - 1} {
		wrong := slices.Clone(long)
		wrong[i].Extra = make([]byte, 33)
		wantErrno(t, "a byte more, one wrong", checkUncleHash(t, "a byte more, one wrong", wrong), api.ErrHdExtra)
	}
}

// P20.1, P0.7, P0.12: the things may have more than MaxInput bytes together: no root is refused for that.
func TestLongRoots(t *testing.T) {
	data := make([]byte, 6<<20)
	txs := slices.Repeat([]api.Tx{{Type: 2, Data: data}}, 4)
	wantErrno(t, "long transactions", checkTxRoot(t, "24 MiB", txs), api.OK)
	logs := []api.Log{{Data: data}}
	receipts := slices.Repeat([]api.Receipt{{Logs: logs, Bloom: receipt.BloomOf(logs)}}, 4)
	wantErrno(t, "long receipts", checkReceiptRoot(t, "24 MiB", receipts), api.OK)
}
