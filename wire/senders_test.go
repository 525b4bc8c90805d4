package wire_test

import (
	"bytes"
	"slices"
	"testing"

	"waybill/address"
	"waybill/api"
	"waybill/chance"
	"waybill/signing"
	"waybill/tx"
	"waybill/wire"
)

// checkSenders holds Senders against its model (P25.5, P0.17) for some numbers of workers.
func checkSenders(t *testing.T, texts [][]byte, workers ...int) {
	t.Helper()
	var want []api.Sent
	for _, b := range texts {
		want = append(want, modelSent(b))
	}
	for _, n := range workers {
		if l, e := wire.Senders(texts, n); !slices.Equal(l, want) || e != api.OK {
			t.Errorf("%d texts, %d workers: %+v, %d, want %+v", len(texts), n, l, e, want)
		}
	}
}

// allWorkers are the numbers of workers that there may be.
func allWorkers() []int {
	var numbers []int
	for n := range 64 {
		numbers = append(numbers, n+1)
	}
	return numbers
}

// P25.5: the chapter's third example.
func TestExamplesOfSenders(t *testing.T) {
	if l, e := wire.Senders(nil, 1); len(l) > 0 || e != api.OK {
		t.Errorf("Senders(nothing, 1) = %v, %d", l, e)
	}
	if l, e := wire.Senders(nil, 0); l != nil || e != api.ErrArg {
		t.Errorf("Senders(nothing, 0) = %v, %d", l, e)
	}
	if l, e := wire.Senders([][]byte{nil}, 2); !slices.Equal(l, []api.Sent{{Err: api.ErrRlpEnd}}) || e != api.OK {
		t.Errorf("Senders([nothing], 2) = %v, %d", l, e)
	}
}

// mixed tells texts of all sorts: signed ones, unsigned ones, ones with signatures that are none, and what is no transaction.
func mixed(row *chance.Row, n int) [][]byte {
	var texts [][]byte
	for i := range n {
		var b []byte
		switch i % 8 {
		case 0, 1, 2:
			b = signed(row, row.Below(kinds), uint64(1+row.Below(5)))
		case 3:
			b, _ = tx.Encode(plainTx(1 + row.Below(4)))
		case 4:
			b, _ = tx.Encode(anyTx(row, row.Below(kinds)))
		case 5:
			b, _ = anyThing(row, 1+row.Below(3))
		case 6:
			b = spoilt(row, signed(row, 2, 7))
		}
		texts = append(texts, b)
	}
	return texts
}

// P25.5, P0.6, P0.17: what is told of each text is what is told of it alone, whatever the number of workers.
func TestSenders(t *testing.T) {
	row := chance.Row(2550)
	texts := mixed(&row, 67)
	checkSenders(t, texts, allWorkers()...)
	counts := map[api.Errno]int{}
	l, _ := wire.Senders(texts, 8)
	for i, s := range l {
		counts[s.Err]++
		h, e := wire.TxHash(texts[i])
		who, f := nobody, e
		if e == api.OK {
			who, f = wire.Sender(texts[i])
		}
		if s != (api.Sent{Hash: h, Sender: who, Err: f}) {
			t.Errorf("text %d: %+v, alone %x, %x, %d", i, s, h, who, f)
		}
	}
	if counts[api.OK] < 20 || counts[api.ErrUnsigned] < 3 || counts[api.ErrRlpEnd] < 3 || len(counts) < 6 {
		t.Errorf("the errors that came: %v", counts)
	}
}

// P25.5: every number of texts about that of the workers.
func TestFewTexts(t *testing.T) {
	row := chance.Row(2551)
	texts := mixed(&row, 20)
	for n := range 20 {
		checkSenders(t, texts[:n], 1, 2, 3, max(1, n-1), max(1, n), n+1, 64)
	}
	for range 10 {
		from, n := row.Below(20), 1+row.Below(64)
		checkSenders(t, slices.Concat(texts[from:], texts[:from]), n)
	}
}

// P25.5: a text with an error of TxHash has no hash and no sender, one with an error of Sender has a hash.
func TestSentFields(t *testing.T) {
	row := chance.Row(2552)
	good := signed(&row, 4, 1)
	refused, _ := tx.Encode(plainTx(2))
	x := anyTx(&row, 1)
	nobodys, e := signing.Signed(x, identity(x))
	if e != api.OK {
		t.Fatal(e)
	}
	zero, _ := tx.Encode(nobodys)
	l, e := wire.Senders([][]byte{good, refused, {0xc0}, zero, make([]byte, maxInput+1), good}, 2)
	who, _ := address.OfKey(api.U256{1})
	h, _ := modelTxHash(good)
	g, _ := modelTxHash(refused)
	k, _ := modelTxHash(zero)
	want := []api.Sent{{Hash: h, Sender: who}, {Hash: g, Err: api.ErrUnsigned}, {Err: api.ErrTxFields}, {Hash: k, Err: api.ErrSigZero}, {Err: api.ErrLong}, {Hash: h, Sender: who}}
	if !slices.Equal(l, want) || e != api.OK || h == noHash || g == noHash || k == noHash {
		t.Errorf("Senders = %+v, %d, want %+v", l, e, want)
	}
}

// P25.5, P0.2: numbers of workers that may not be count ahead of too many texts; these count ahead of what they are.
func TestSendersRefused(t *testing.T) {
	row := chance.Row(2553)
	few, many := [][]byte{signed(&row, 2, 1)}, make([][]byte, maxList)
	for _, workers := range []int{-1 << 63, -65, -64, -2, -1, 0, 65, 66, 128, 256, 257, 1 << 32, 1<<32 + 1, 1<<63 - 1} {
		for _, texts := range [][][]byte{nil, few, many} {
			if l, e := wire.Senders(texts, workers); l != nil || e != api.ErrArg {
				t.Errorf("%d texts, %d workers: %v, %d", len(texts), workers, l, e)
			}
		}
	}
	for _, n := range []int{maxList, maxList + 1, 3 * maxList} {
		for _, workers := range []int{1, 2, 64} {
			if l, e := wire.Senders(slices.Repeat(few, n), workers); l != nil || e != api.ErrBkCount {
				t.Errorf("%d texts, %d workers: %d of them, %d", n, workers, len(l), e)
			}
		}
	}
}

// P25.5: one text fewer than MaxList is taken.
func TestManyTexts(t *testing.T) {
	row := chance.Row(2554)
	texts := make([][]byte, maxList-1)
	for i := range texts {
		texts[i] = []byte{byte(i), byte(i >> 8)}
	}
	for _, i := range []int{0, 1, 63, 64, 30000, maxList - 2} {
		texts[i] = signed(&row, i%kinds, uint64(1+i))
	}
	checkSenders(t, texts, 1, 7, 64)
}

// P25.5: one text that stands in many places.
func TestOneTextManyTimes(t *testing.T) {
	row := chance.Row(2555)
	b := signed(&row, 3, 9)
	texts := slices.Repeat([][]byte{b}, 30)
	before := bytes.Clone(b)
	checkSenders(t, texts, 1, 16, 64)
	if !bytes.Equal(b, before) {
		t.Error("the text was written to")
	}
}
