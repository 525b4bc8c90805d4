package wire_test

import (
	"slices"
	"testing"

	"waybill/api"
	"waybill/block"
	"waybill/chance"
	"waybill/header"
	"waybill/receipt"
	"waybill/tx"
	"waybill/wire"
)

// checkKind holds Kind against its model (P25.9, P0.2) and tells the answer.
func checkKind(t *testing.T, b []byte) int {
	t.Helper()
	want, wantE := modelKind(b)
	got, e := wire.Kind(b)
	if got != want || e != wantE {
		t.Errorf("Kind(%x) = %d, %d, want %d, %d", short(b), got, e, want, wantE)
	}
	return got
}

func wantKind(t *testing.T, why string, b []byte, want int) {
	t.Helper()
	if got := checkKind(t, b); got != want {
		t.Errorf("%s: Kind(%x) = %d, want %d", why, short(b), got, want)
	}
}

// P25.9: the chapter's fifth example.
func TestExamplesOfKind(t *testing.T) {
	wantKind(t, "an empty list", digits("c0"), 0)
	wantKind(t, "nothing", nil, 0)
}

// P25.9: the least of each kind, of each type or tail.
func TestLeastOfKinds(t *testing.T) {
	for n := range kinds {
		a, _ := tx.Encode(plainTx(n))
		wantKind(t, "a transaction", a, 1)
		b, _ := receipt.Encode(api.Receipt{Type: n})
		wantKind(t, "a receipt", b, 2)
		c, _ := header.Encode(api.Header{Tail: n})
		wantKind(t, "a header", c, 4)
		d, _ := block.Encode(api.Block{Header: api.Header{Tail: n}, Drawn: n >= 2})
		wantKind(t, "a block", d, 8)
		for _, text := range [][]byte{a, b, c, d} {
			wantKind(t, "a byte more", append(text, 0), 0)
			wantKind(t, "a byte less", text[:len(text)-1], 0)
			wantKind(t, "twice", slices.Concat(text, text), 0)
			wantKind(t, "a list of it", slices.Concat(modelHead(0xc0, len(text)), text), 0)
			wantKind(t, "a text of it", modelBytes(api.Item{Data: text}), 0)
		}
	}
	rooted, _ := receipt.Encode(api.Receipt{Rooted: true})
	wantKind(t, "a receipt with a root", rooted, 2)
}

// P25.9: what can be read is asked, no more: a signature that is none, a block whose header is another one's; but a receipt's bloom must be its logs'.
func TestKindAsksNoMore(t *testing.T) {
	a, _ := tx.Encode(api.Tx{Type: 1, R: top, S: top})
	wantKind(t, "no signature", a, 1)
	b, _ := block.Encode(api.Block{Txs: []api.Tx{plainTx(2)}})
	wantKind(t, "another one's header", b, 8)
	c, _ := receipt.Encode(api.Receipt{})
	c[20] ^= 1
	wantKind(t, "another bloom", c, 0)
}

// P25.9: things by chance of each kind, and what they become by a step or two.
func TestKindByChance(t *testing.T) {
	row := chance.Row(2520)
	counts := map[int]int{}
	for n := range 4000 {
		b, want := anyThing(&row, n)
		wantKind(t, "by chance", b, want)
		counts[checkKind(t, spoilt(&row, b))]++
	}
	for _, kind := range []int{0, 1, 2, 4, 8} {
		if counts[kind] < 20 {
			t.Errorf("spoilt, the kinds %v come", counts)
		}
	}
	for first := range 256 {
		for _, rest := range []string{"", "00", "80", "c0", "c0c0"} {
			checkKind(t, append([]byte{byte(first)}, digits(rest)...))
		}
	}
}

// P25.9, P0.7: just MaxInput bytes of each kind that can have them, and one more.
func TestLongKind(t *testing.T) {
	_, a := fits(t, txs(), 0)
	_, b := fits(t, txs(), 3)
	_, c := fits(t, receipts(), 0)
	_, d := fits(t, receipts(), 1)
	for i, text := range [][]byte{a, b, c, d} {
		wantKind(t, "MaxInput bytes", text, 1+i/2)
		if got, e := wire.Kind(append(text, 0)); got != 0 || e != api.ErrLong {
			t.Errorf("a byte more: %d, %d", got, e)
		}
	}
	whole := func(n int) []byte {
		text, _ := block.Encode(api.Block{Txs: []api.Tx{{Type: 2, Data: make([]byte, n)}}})
		return text
	}
	n := maxInput - len(whole(1<<20)) + 1<<20
	wantKind(t, "a block of MaxInput bytes", whole(n), 8)
	if len(whole(n)) != maxInput {
		t.Errorf("%d bytes", len(whole(n)))
	}
	for _, n := range []int{maxInput + 1, 2 * maxInput} {
		if got, e := wire.Kind(make([]byte, n)); got != 0 || e != api.ErrLong {
			t.Errorf("%d zeros: %d, %d", n, got, e)
		}
	}
}
