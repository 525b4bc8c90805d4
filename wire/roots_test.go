package wire_test

import (
	"slices"
	"testing"

	"waybill/api"
	"waybill/block"
	"waybill/chance"
	"waybill/keccak"
	"waybill/trie"
	"waybill/wire"
)

// checkRoot holds the root of a list against its model (P25.6, P0.2) and tells the error.
func checkRoot[T any](t *testing.T, p paper[T], l []T) api.Errno {
	t.Helper()
	want, wantE := p.modelRoot(l)
	h, e := p.root(l)
	if h != want || e != wantE {
		t.Errorf("the root of %d things: %x, %d, want %x, %d", len(l), h, e, want, wantE)
	}
	return e
}

func wantRoot[T any](t *testing.T, p paper[T], why string, l []T, want api.Errno) {
	t.Helper()
	if e := checkRoot(t, p, l); e != want {
		t.Errorf("%s: the root of %d things: %d, want %d", why, len(l), e, want)
	}
}

// P25.6: the chapter's second example, of receipts too; nil and empty lists are the same (P0.4).
func TestExamplesOfRoots(t *testing.T) {
	for _, empty := range []bool{false, true} {
		var a []api.Tx
		var b []api.Receipt
		if empty {
			a, b = make([]api.Tx, 0, 3), make([]api.Receipt, 0, 3)
		}
		h, e := wire.TxRoot(a)
		g, f := wire.ReceiptRoot(b)
		if h != noEntries || g != noEntries || e != api.OK || f != api.OK || h != keccak.Sum([]byte{0x80}) {
			t.Errorf("the roots of nothing: %x, %d; %x, %d", h, e, g, f)
		}
	}
}

// P25.6: the roots of mainnet's block 46147, the first with a transaction, written down from memory; the hashes would show a slip.
func TestKnownRoots(t *testing.T) {
	first, e := wire.DecodeTx(digits(known()[1].text))
	if e != api.OK {
		t.Fatal(e)
	}
	if h, e := wire.TxRoot([]api.Tx{first}); h != hash("4513310fcb9f6f616972a3b948dc5d547f280849a87ebb5af0191f98b87be598") || e != api.OK {
		t.Errorf("TxRoot = %x, %d", h, e)
	}
	told := api.Receipt{Rooted: true, Root: hash("96a8e009d2b88b1483e6941e6812e32263b05683fac202abc622a3e31aed1957"), Used: 21000}
	if h, e := wire.ReceiptRoot([]api.Receipt{told}); h != hash("fe2bf2a941abf41d72637e5b91750332a30283efd40c424dc522b77e6f0ed8c4") || e != api.OK {
		t.Errorf("ReceiptRoot = %x, %d", h, e)
	}
}

func tryRoots[T any](t *testing.T, p paper[T]) {
	row := chance.Row(2540)
	var l []T
	seen := map[api.Hash]bool{}
	for n := range 270 {
		if n < 20 || n > 125 && n < 132 || n > 253 {
			wantRoot(t, p, "by chance", l, api.OK)
			h, _ := p.root(l)
			seen[h] = true
		}
		l = append(l, p.any(&row, n%kinds))
	}
	if len(seen) != 20+6+16 {
		t.Errorf("%d roots", len(seen))
	}
	a, b := p.plain(0), p.plain(2)
	seen = map[api.Hash]bool{}
	for _, l := range [][]T{{a}, {b}, {a, b}, {b, a}, {a, a}, {a, b, b}} {
		wantRoot(t, p, "the order counts", l, api.OK)
		h, _ := p.root(l)
		seen[h] = true
	}
	if len(seen) != 6 {
		t.Errorf("%d roots of six lists", len(seen))
	}
}

// P25.6, P0.12: lists of many lengths: the keys change theirs at 1, 128 and 256 things; the order counts, and so does a thing that stands twice.
func TestRoots(t *testing.T) {
	t.Run("txs", func(t *testing.T) { tryRoots(t, txs()) })
	t.Run("receipts", func(t *testing.T) { tryRoots(t, receipts()) })
}

// P25.6, P0.12: the trie maps the index, as a scalar's item, to the envelope.
func TestRootKeys(t *testing.T) {
	row := chance.Row(2541)
	own := trie.New()
	var l []api.Tx
	for n := range 300 {
		l = append(l, anyTx(&row, n%kinds))
		envelope, _ := wire.EncodeTx(l[n])
		key := []byte{0x80}
		switch {
		case n > 255:
			key = []byte{0x82, 1, byte(n)}
		case n > 127:
			key = []byte{0x81, byte(n)}
		case n > 0:
			key = []byte{byte(n)}
		}
		own.Put(key, envelope)
		if n%50 == 49 || n < 3 || n > 125 && n < 131 || n > 254 && n < 259 {
			if h, e := wire.TxRoot(l); h != own.Root() || e != api.OK {
				t.Errorf("%d transactions: %x, %d, want %x", n+1, h, e, own.Root())
			}
		}
	}
}

func tryWrongRoots[T any](t *testing.T, p paper[T], fit int) {
	for _, x := range p.wrongs {
		_, want := p.encode(x)
		for _, y := range append(p.wrongs, p.plain(1)) {
			for _, l := range [][]T{{x}, {x, y}, {p.plain(0), x, y}, {p.plain(3), p.plain(4), p.plain(2), x, y, y}} {
				wantRoot(t, p, "a wrong one", l, want)
			}
		}
	}
	wantRoot(t, p, "as many as there may be", slices.Repeat([]T{p.plain(0)}, fit), api.OK)
	wantRoot(t, p, "the last one wrong", append(slices.Repeat([]T{p.plain(0)}, maxList-2), p.wrongs[0]), checkRoot(t, p, p.wrongs[:1]))
	for _, n := range []int{maxList, maxList + 1, 2 * maxList} {
		for _, x := range []T{p.plain(0), p.wrongs[0]} {
			wantRoot(t, p, "too many", slices.Repeat([]T{x}, n), api.ErrBkCount)
		}
	}
}

// P25.6, P0.2: of several wrong things the first one in order counts; MaxList things are too many, whatever they are; of fewer, that have at most MaxInput bytes together, the root is always answered (P0.12).
func TestWrongRoots(t *testing.T) {
	t.Run("txs", func(t *testing.T) { tryWrongRoots(t, txs(), maxList-1) })
	t.Run("receipts", func(t *testing.T) { tryWrongRoots(t, receipts(), maxInput/265) })
	wantRoot(t, receipts(), "one more than have MaxInput bytes", make([]api.Receipt, maxInput/265+1), api.ErrLong)
	wantRoot(t, receipts(), "65535 receipts", make([]api.Receipt, maxList-1), api.ErrLong)
}

func tryLongRoots[T any](t *testing.T, p paper[T]) {
	others := []T{p.plain(1), p.plain(0), p.plain(4)}
	for _, kind := range []int{0, 2} {
		size := func(x T) int {
			sum := 0
			for _, y := range append([]T{x}, others...) {
				b, _ := p.encode(y)
				sum += len(b)
			}
			return sum
		}
		fit, long := stretched(t, p, kind, maxInput, size), stretched(t, p, kind, maxInput+1, size)
		for i := 0; i < len(others); i += 2 {
			l := slices.Insert(slices.Clone(others), i, fit)
			wantRoot(t, p, "MaxInput bytes", l, api.OK)
			if b, e := p.encodeList(l); len(b) > 0 || e != api.ErrLong {
				t.Errorf("the list of these: %d bytes, %d", len(b), e)
			}
			l[i] = long
			wantRoot(t, p, "a byte more", l, api.ErrLong)
			wantRoot(t, p, "a byte more, and a wrong one behind", append(l, p.wrongs[i]), checkRoot(t, p, p.wrongs[i:i+1]))
		}
		x, _ := fits(t, p, kind)
		wantRoot(t, p, "one of MaxInput bytes", []T{x}, api.OK)
		wantRoot(t, p, "and another one", []T{x, p.plain(0)}, api.ErrLong)
		wantRoot(t, p, "and another one ahead", []T{p.plain(0), x}, api.ErrLong)
		wantRoot(t, p, "two of them and a wrong one", []T{x, x, p.wrongs[0]}, checkRoot(t, p, p.wrongs[:1]))
	}
}

// P25.6, P0.7: envelopes of just MaxInput bytes together, and of one more: not the list that they would make counts; what is wrong in a thing counts ahead of it.
func TestLongRoots(t *testing.T) {
	t.Run("txs", func(t *testing.T) { tryLongRoots(t, txs()) })
	t.Run("receipts", func(t *testing.T) { tryLongRoots(t, receipts()) })
}

// P25.6: the roots are those that blocks' headers have.
func TestRootsOfBlocks(t *testing.T) {
	row := chance.Row(2542)
	for n := range 100 {
		b := anyBlock(&row, 3+n%2)
		s, e := block.Seal(b)
		if e != api.OK {
			t.Fatal(e)
		}
		if h, e := wire.TxRoot(b.Txs); h != s.Header.TxRoot || e != api.OK {
			t.Errorf("TxRoot = %x, %d, want %x", h, e, s.Header.TxRoot)
		}
		var all []api.Receipt
		for _, x := range b.Txs {
			all = append(all, anyReceipt(&row, x.Type))
		}
		want, _ := block.ReceiptRoot(all)
		if h, e := wire.ReceiptRoot(all); h != want || e != api.OK {
			t.Errorf("ReceiptRoot = %x, %d, want %x", h, e, want)
		}
	}
}
