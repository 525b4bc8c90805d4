package block_test

import (
	"slices"
	"testing"

	"waybill/api"
	"waybill/block"
	"waybill/chance"
	"waybill/receipt"
)

func wantReceipts(t *testing.T, why string, b api.Block, receipts []api.Receipt, want api.Errno) {
	t.Helper()
	e := block.CheckReceipts(b, receipts)
	if model := modelReceipts(b, receipts); e != want || e != model {
		t.Errorf("%s: %d, want %d, the model has %d", why, e, want, model)
	}
}

// P20.8: the chapter's fifth example.
func TestExamplesOfReceipts(t *testing.T) {
	s, e := block.Seal(api.Block{Header: api.Header{ReceiptRoot: noEntries}})
	if e != api.OK {
		t.Fatal(e)
	}
	wantReceipts(t, "none", s, nil, api.OK)
	wantReceipts(t, "none", s, make([]api.Receipt, 0, 3), api.OK)
	wantReceipts(t, "one", s, make([]api.Receipt, 1), api.ErrBkRcs)
	for i, turn := range []func(*api.Block){func(b *api.Block) { b.Header.Used = 1 }, func(b *api.Block) { b.Header.Bloom[255] = 1 }, func(b *api.Block) { b.Header.ReceiptRoot[0] ^= 1 }} {
		if e := block.CheckReceipts(turned(s, turn), nil); e != api.ErrBkRcs {
			t.Errorf("turn %d: %d", i, e)
		}
	}
}

// done tells a block of a tail, with a receipt for each of its transactions, each with a log of its own.
func done(tail int) (api.Block, []api.Receipt) {
	b := full(tail)
	var receipts []api.Receipt
	for i, x := range b.Txs {
		r, e := receipt.Make(x.Type, 1, uint64(30000*(i+1)), []api.Log{{Address: api.Address{byte(i)}, Topics: []api.Hash{{byte(i)}}}})
		if e != api.OK {
			panic("no receipt")
		}
		receipts = append(receipts, r)
	}
	return told(b, receipts), receipts
}

// cloneReceipts tells receipts that may be turned.
func cloneReceipts(receipts []api.Receipt) []api.Receipt {
	receipts = slices.Clone(receipts)
	for i := range receipts {
		receipts[i].Logs = slices.Clone(receipts[i].Logs)
	}
	return receipts
}

// P20.8: each thing that is asked, alone: where it can be, all the others hold.
func TestReceiptsOneWrong(t *testing.T) {
	for tail := range tails {
		b, right := done(tail)
		last := len(right) - 1
		wantReceipts(t, "right", b, right, api.OK)
		for i, turn := range []func(*api.Block){
			func(b *api.Block) { b.Header.Used++ }, func(b *api.Block) { b.Header.Used-- }, func(b *api.Block) { b.Header.Used = 0 }, func(b *api.Block) { b.Header.Used = right[0].Used },
			func(b *api.Block) { b.Header.Bloom = api.Bloom{} }, func(b *api.Block) { b.Header.Bloom = right[last].Bloom }, func(b *api.Block) { b.Header.Bloom = right[0].Bloom },
			func(b *api.Block) { b.Header.ReceiptRoot[0] ^= 1 }, func(b *api.Block) { b.Header.ReceiptRoot[31] ^= 1 }, func(b *api.Block) { b.Header.ReceiptRoot = noEntries }, func(b *api.Block) { b.Header.ReceiptRoot = api.Hash{} },
		} {
			if e := block.CheckReceipts(turned(b, turn), right); e != api.ErrBkRcs {
				t.Errorf("tail %d, turn %d of the header: %d", tail, i, e)
			}
		}
		for j := range 2048 { // a bit more or a bit less
			other := b
			other.Header.Bloom[j/8] ^= 1 << (j % 8)
			if j%40 == 0 || b.Header.Bloom[j/8]>>(j%8)&1 == 1 {
				wantReceipts(t, "another bit", other, right, api.ErrBkRcs)
			}
		}
		for i, turn := range []func([]api.Receipt) []api.Receipt{
			func(l []api.Receipt) []api.Receipt { return l[:last] }, func(l []api.Receipt) []api.Receipt { return l[1:] }, func(l []api.Receipt) []api.Receipt { return nil }, func(l []api.Receipt) []api.Receipt { return append(l, l[last]) },
			func(l []api.Receipt) []api.Receipt { l[0], l[1] = l[1], l[0]; return l }, func(l []api.Receipt) []api.Receipt { l[1].Status = 0; return l }, func(l []api.Receipt) []api.Receipt { l[0].Rooted, l[0].Status = true, 0; return l },
			func(l []api.Receipt) []api.Receipt { l[0].Used++; return l }, func(l []api.Receipt) []api.Receipt { l[last].Used++; return l }, func(l []api.Receipt) []api.Receipt { l[2].Logs[0].Data = []byte{0}; return l },
		} {
			wantReceipts(t, "other receipts", b, turn(cloneReceipts(right)), api.ErrBkRcs)
			others := turn(cloneReceipts(right))
			if i <= 4 { // how many they are, and their types, count though the header tells them
				wantReceipts(t, "other receipts that the header tells", told(b, others), others, api.ErrBkRcs)
			} else {
				wantReceipts(t, "other receipts that the header tells", told(b, others), others, api.OK)
			}
		}
	}
}

// P20.8: the types of the receipts are those of the transactions, one by one.
func TestReceiptTypes(t *testing.T) {
	for tail := range tails {
		b, right := done(tail)
		for i := range right {
			for kind := range kinds {
				others := cloneReceipts(right)
				others[i].Type = kind
				want := api.ErrBkRcs
				if kind == b.Txs[i].Type {
					want = api.OK
				}
				wantReceipts(t, "another type", told(b, others), others, want)
			}
		}
	}
}

// P20.8: the gas never falls from one receipt to the next; it may stay.
func TestReceiptGas(t *testing.T) {
	b, right := done(3)
	for _, c := range []struct {
		used [5]uint64
		want api.Errno
	}{
		{[5]uint64{}, api.OK}, {[5]uint64{5, 5, 5, 5, 5}, api.OK}, {[5]uint64{0, 0, 0, 0, most}, api.OK}, {[5]uint64{most, most, most, most, most}, api.OK}, {[5]uint64{1, 2, 3, 4, 5}, api.OK},
		{[5]uint64{1, 0, 3, 4, 5}, api.ErrBkRcs}, {[5]uint64{1, 2, 3, 4, 3}, api.ErrBkRcs}, {[5]uint64{most, 2, 3, 4, 5}, api.ErrBkRcs}, {[5]uint64{6, 2, 3, 4, 6}, api.ErrBkRcs},
	} {
		others := cloneReceipts(right)
		for i := range others {
			others[i].Used = c.used[i]
		}
		wantReceipts(t, "gas", told(b, others), others, c.want)
	}
}

// P20.8, P0.1: what Check finds counts ahead of what the receipts are, and a receipt that is wrong in itself ahead of how they fit: the first one of them.
func TestReceiptsOrder(t *testing.T) {
	b, right := done(4)
	wrong := []struct {
		e    api.Errno
		turn func(*api.Receipt)
	}{
		{api.ErrRcType, func(r *api.Receipt) { r.Type = 7 }}, {api.ErrRcType, func(r *api.Receipt) { r.Type = -1 }}, {api.ErrRcField, func(r *api.Receipt) { r.Status = 2 }},
		{api.ErrRcTopics, func(r *api.Receipt) { r.Logs = []api.Log{{Topics: make([]api.Hash, 5)}} }}, {api.ErrRcBloom, func(r *api.Receipt) { r.Bloom[0] ^= 1 }},
	}
	for _, first := range wrong {
		for _, second := range wrong {
			for i := range right {
				for j := i + 1; j <= len(right); j++ {
					others := append(cloneReceipts(right), right[0])
					first.turn(&others[i])
					second.turn(&others[j]) // the last one is one too many
					wantReceipts(t, "wrong receipts", b, others, first.e)
					other := turned(b, func(b *api.Block) { b.Header.Used++; b.Header.ReceiptRoot = api.Hash{} })
					wantReceipts(t, "wrong receipts and another header", other, others, first.e)
				}
			}
		}
		others := cloneReceipts(right)
		first.turn(&others[0])
		for _, turn := range turns(4) {
			wantReceipts(t, "a wrong block and wrong receipts", turned(b, turn.turn), others, turn.e)
		}
		wantReceipts(t, "a block with a fault", turned(b, func(b *api.Block) { b.Drawn = false }), others, api.ErrBkField)
		wantReceipts(t, "a block with a fault", turned(b, func(b *api.Block) { b.Txs[2].Type = 9 }), others, api.ErrTxType)
	}
}

// P20.8: blocks by chance with their receipts, and with one turned.
func TestReceiptsByChance(t *testing.T) {
	row := chance.Row(2050)
	taken, refused := 0, 0
	for n := range 500 {
		b, receipts := anyDone(&row, n%tails)
		wantReceipts(t, "by chance", b, receipts, api.OK)
		taken++
		if len(receipts) == 0 {
			continue
		}
		i := row.Below(len(receipts))
		others := cloneReceipts(receipts)
		others[i] = anyReceipt(&row, receipts[i].Type, receipts[i].Used)
		if !same(others, receipts) {
			wantReceipts(t, "another receipt", b, others, api.ErrBkRcs)
			wantReceipts(t, "another receipt, told", told(b, others), others, api.OK)
			refused++
		}
	}
	if taken < 500 || refused < 200 {
		t.Errorf("%d taken, %d refused", taken, refused)
	}
}

// P20.8, P0.7: a receipt that is well-formed but too long to be written has no root, whatever the header says; more receipts than MaxList are too many, not an error of their own.
func TestReceiptsWithoutRoot(t *testing.T) {
	long := longReceipt()
	b, e := block.Seal(api.Block{Txs: []api.Tx{plainTx(0)}})
	if e != api.OK {
		t.Fatal(e)
	}
	b = told(b, []api.Receipt{long})
	wantReceipts(t, "a long receipt", b, []api.Receipt{long}, api.ErrBkRcs)
	b.Header.ReceiptRoot = noEntries
	wantReceipts(t, "a long receipt", b, []api.Receipt{long}, api.ErrBkRcs)
	many := make([]api.Receipt, maxList)
	wantReceipts(t, "many receipts", b, many, api.ErrBkRcs)
	many[maxList-1].Status = 2
	wantReceipts(t, "many receipts, the last one wrong", b, many, api.ErrRcField)
}
