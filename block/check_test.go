package block_test

import (
	"slices"
	"testing"

	"waybill/api"
	"waybill/block"
	"waybill/chance"
	"waybill/header"
)

func checkCheck(t *testing.T, why string, b api.Block) api.Errno {
	t.Helper()
	e := block.Check(b)
	wantErrno(t, why+", against the model", e, modelCheck(b))
	return e
}

func wantCheck(t *testing.T, why string, b api.Block, want api.Errno) {
	t.Helper()
	wantErrno(t, why, checkCheck(t, why, b), want)
}

// checkSeal holds Seal against its model (P20.7, P0.2); what it makes is taken (P0.15). It tells Seal's error.
func checkSeal(t *testing.T, why string, b api.Block) api.Errno {
	t.Helper()
	want, wantE := modelSeal(b)
	s, e := block.Seal(b)
	if !same(s, want) || e != wantE {
		t.Errorf("%s: Seal(%+v) = %+v, %d, want %+v, %d", why, b, s, e, want, wantE)
	}
	if e == api.OK {
		wantErrno(t, why+", Check of Seal", block.Check(s), api.OK)
	}
	return e
}

func wantSeal(t *testing.T, why string, b api.Block, want api.Errno) {
	t.Helper()
	wantErrno(t, why, checkSeal(t, why, b), want)
}

// P20.6, P20.7: the chapter's fourth example.
func TestExamplesOfCheck(t *testing.T) {
	for _, h := range []api.Header{{}, {Number: 9, TxRoot: api.Hash{1}, Uncles: api.Hash{2}, Extra: []byte("x")}} {
		s, e := block.Seal(api.Block{Header: h})
		if e != api.OK || s.Header.TxRoot != noEntries || s.Header.Uncles != noUncles || s.Header.Number != h.Number {
			t.Errorf("Seal: %+v, %d", s, e)
		}
		wantCheck(t, "sealed", s, api.OK)
		for i := range 32 {
			wantCheck(t, "another TxRoot", turned(s, func(b *api.Block) { b.Header.TxRoot[i] ^= 1 }), api.ErrBkTxs)
			wantCheck(t, "another Uncles", turned(s, func(b *api.Block) { b.Header.Uncles[i] ^= 0x80 }), api.ErrBkUncles)
		}
	}
	wantCheck(t, "nothing", api.Block{}, api.ErrBkTxs)
}

// turns are changes of a sealed block's header after which it stands for something else, in the order in which they are looked for.
func turns(tail int) []struct {
	e    api.Errno
	turn func(*api.Block)
} {
	all := []struct {
		e    api.Errno
		turn func(*api.Block)
	}{
		{api.ErrBkTxs, func(b *api.Block) { b.Header.TxRoot[31] ^= 1 }},
		{api.ErrBkUncles, func(b *api.Block) { b.Header.Uncles[0] ^= 1 }},
		{api.ErrBkDraws, func(b *api.Block) { b.Header.Withdrawals[15] ^= 1 }},
		{api.ErrBkBlobs, func(b *api.Block) { b.Header.BlobUsed++ }},
	}
	switch {
	case tail < 2:
		return all[:2]
	case tail < 3:
		return all[:3]
	}
	return all
}

// P20.6, P0.1: every choice of what is wrong in the header: the first one in order counts; no other field of the header does.
func TestCheckOrder(t *testing.T) {
	row := chance.Row(2040)
	for tail := range tails {
		for _, right := range []api.Block{full(tail), anySealed(&row, tail), anySealed(&row, tail)} {
			all := turns(tail)
			for choice := range 1 << len(all) {
				b, want := cloned(right), api.OK
				for i := len(all) - 1; i >= 0; i-- {
					if choice>>i&1 == 1 {
						all[i].turn(&b)
						want = all[i].e
					}
				}
				wantCheck(t, "wrong ones", b, want)
				wantSeal(t, "wrong ones", b, api.OK)
				b.Drawn = !b.Drawn
				wantCheck(t, "wrong ones, and Drawn", b, api.ErrBkField)
				b.Drawn = !b.Drawn
				h := anyHeader(&row, tail)
				h.TxRoot, h.Uncles, h.Withdrawals, h.BlobUsed = b.Header.TxRoot, b.Header.Uncles, b.Header.Withdrawals, b.Header.BlobUsed
				b.Header = h
				wantCheck(t, "wrong ones, all else another", b, want)
			}
		}
	}
}

// P20.6, P20.9, P0.15: a header stands for its things alone: one of them another one, one more, one fewer, two in each other's places.
func TestOneBlockAlone(t *testing.T) {
	for tail := range tails {
		right := full(tail)
		name, _ := header.Hash(right.Header)
		wantCheck(t, "the right one", right, api.OK)
		cases := []struct {
			e    api.Errno
			turn func(*api.Block)
		}{
			{api.ErrBkTxs, func(b *api.Block) { b.Txs = b.Txs[:len(b.Txs)-1] }}, {api.ErrBkTxs, func(b *api.Block) { b.Txs = b.Txs[1:] }}, {api.ErrBkTxs, func(b *api.Block) { b.Txs = nil }},
			{api.ErrBkTxs, func(b *api.Block) { b.Txs = append(b.Txs, b.Txs[0]) }}, {api.ErrBkTxs, func(b *api.Block) { b.Txs[0], b.Txs[1] = b.Txs[1], b.Txs[0] }},
			{api.ErrBkTxs, func(b *api.Block) { b.Txs[2].Nonce++ }}, {api.ErrBkTxs, func(b *api.Block) { b.Txs[0].V = api.U256{28} }}, {api.ErrBkTxs, func(b *api.Block) { b.Txs[1].Data = []byte{0} }},
			{api.ErrBkTxs, func(b *api.Block) { b.Txs[1].Access = []api.AccessEntry{{}} }}, {api.ErrBkTxs, func(b *api.Block) { b.Txs[len(b.Txs)-1].Auths = make([]api.Auth, 2) }},
			{api.ErrBkUncles, func(b *api.Block) { b.Uncles = b.Uncles[1:] }}, {api.ErrBkUncles, func(b *api.Block) { b.Uncles = nil }}, {api.ErrBkUncles, func(b *api.Block) { b.Uncles = append(b.Uncles, b.Uncles[4]) }},
			{api.ErrBkUncles, func(b *api.Block) { b.Uncles[3], b.Uncles[4] = b.Uncles[4], b.Uncles[3] }}, {api.ErrBkUncles, func(b *api.Block) { b.Uncles[4].Requests[31] = 1 }}, {api.ErrBkUncles, func(b *api.Block) { b.Uncles[0].Extra = []byte{0} }},
		}
		if tail >= 2 {
			cases = append(cases, []struct {
				e    api.Errno
				turn func(*api.Block)
			}{
				{api.ErrBkDraws, func(b *api.Block) { b.Withdrawals = nil }}, {api.ErrBkDraws, func(b *api.Block) { b.Withdrawals = b.Withdrawals[:2] }}, {api.ErrBkDraws, func(b *api.Block) { b.Withdrawals = append(b.Withdrawals, api.Withdrawal{}) }},
				{api.ErrBkDraws, func(b *api.Block) { b.Withdrawals[0], b.Withdrawals[1] = b.Withdrawals[1], b.Withdrawals[0] }}, {api.ErrBkDraws, func(b *api.Block) { b.Withdrawals[0].Index++ }}, {api.ErrBkDraws, func(b *api.Block) { b.Withdrawals[0].Validator++ }},
				{api.ErrBkDraws, func(b *api.Block) { b.Withdrawals[1].Address[19]++ }}, {api.ErrBkDraws, func(b *api.Block) { b.Withdrawals[2].Amount-- }}, {api.ErrBkDraws, func(b *api.Block) { w := &b.Withdrawals[0]; w.Index, w.Validator = w.Validator, w.Index }},
			}...)
		}
		for i, c := range cases {
			b := turned(right, c.turn)
			if other, _ := header.Hash(b.Header); other != name {
				t.Fatalf("turn %d has changed the header", i)
			}
			wantCheck(t, "other things", b, c.e)
			s, e := block.Seal(b)
			if other, _ := header.Hash(s.Header); e != api.OK || other == name || block.Check(s) != api.OK {
				t.Errorf("tail %d, turn %d: sealed, it has the same hash, or %d", tail, i, e)
			}
		}
	}
}

// blobs tells transactions of which each has so many blobs.
func blobs(counts ...int) []api.Tx {
	var txs []api.Tx
	for _, n := range counts {
		x := plainTx(3)
		x.BlobHashes = slices.Repeat([]api.Hash{{1, 2}}, n)
		txs = append(txs, x, plainTx(2), plainTx(0))
	}
	return txs
}

// P20.6, P20.7: the blob gas is that of all blob hashes of all transactions; a tail without blob gas takes none.
func TestBlobGas(t *testing.T) {
	for tail := range tails {
		for _, counts := range [][]int{nil, {1}, {6}, {1, 2, 3}, {4096}, {4096, 4096, 1}} {
			sum := 0
			for _, n := range counts {
				sum += n
			}
			b := api.Block{Header: api.Header{Tail: tail}, Drawn: tail >= 2, Txs: blobs(counts...)}
			if tail < 3 {
				want := api.OK
				if sum > 0 {
					want = api.ErrBkBlobs
				}
				wantSeal(t, "blobs", b, want)
				b.Header.TxRoot, _ = modelTxRoot(b.Txs)
				b.Header.Uncles = noUncles
				if tail == 2 {
					b.Header.Withdrawals = noEntries
				}
				wantCheck(t, "blobs", b, want)
				continue
			}
			b.Header.BlobUsed = 5
			wantSeal(t, "blobs", b, api.OK)
			s, _ := block.Seal(b)
			if s.Header.BlobUsed != uint64(sum)*blob {
				t.Errorf("tail %d, %v blobs: %d", tail, counts, s.Header.BlobUsed)
			}
			for _, used := range []uint64{0, 1, uint64(sum), uint64(sum)*blob - 1, uint64(sum)*blob + 1, uint64(sum)*blob - blob, uint64(sum)*blob + blob, most, 1<<32 + uint64(sum)*blob} {
				want := api.ErrBkBlobs
				if used == uint64(sum)*blob {
					want = api.OK
				}
				wantCheck(t, "BlobUsed", turned(s, func(b *api.Block) { b.Header.BlobUsed = used }), want)
			}
		}
	}
}

// P20.7, P0.15: blocks by chance: what is sealed is taken, has all that it was given, and sealing it again changes nothing.
func TestSeal(t *testing.T) {
	row := chance.Row(2041)
	for n := range 600 {
		tail := n % tails
		b := anyBlock(&row, tail)
		wantSeal(t, "by chance", b, api.OK)
		s, _ := block.Seal(b)
		back := s
		back.Header.TxRoot, back.Header.Uncles = b.Header.TxRoot, b.Header.Uncles
		if tail >= 2 {
			back.Header.Withdrawals = b.Header.Withdrawals
		}
		if tail >= 3 {
			back.Header.BlobUsed = b.Header.BlobUsed
		}
		if !same(back, b) {
			t.Errorf("Seal has changed more than the roots: %+v, of %+v", s, b)
		}
		if again, e := block.Seal(s); !same(again, s) || e != api.OK {
			t.Errorf("Seal of Seal: %d", e)
		}
		if tail < 3 {
			b.Txs = append(b.Txs, anyTx(&row, 3))
			wantSeal(t, "a blob too early", b, api.ErrBkBlobs)
			wantCheck(t, "a blob too early", b, api.ErrBkTxs)
			wantEncode(t, "a blob too early", b, api.OK) // it is well-formed all the same
		}
	}
}

// P20.6, P20.7, P0.12, P0.15: a block with one fewer than MaxList transactions and withdrawals is sealed and taken.
func TestSealMany(t *testing.T) {
	b := api.Block{Header: api.Header{Tail: 4}, Drawn: true, Txs: slices.Repeat([]api.Tx{plainTx(1)}, maxList-1), Withdrawals: make([]api.Withdrawal, maxList-1)}
	s, e := block.Seal(b)
	if e != api.OK || block.Check(s) != api.OK || len(s.Txs) != len(b.Txs) || len(s.Withdrawals) != len(b.Withdrawals) {
		t.Errorf("many things: %d, %d", e, block.Check(s))
	}
	if s.Txs = s.Txs[1:]; block.Check(s) != api.ErrBkTxs {
		t.Errorf("one fewer of many things: %d", block.Check(s))
	}
}
