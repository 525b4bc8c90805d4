package block_test

import (
	"bytes"
	"reflect"
	"slices"
	"sync"
	"testing"

	"waybill/api"
	"waybill/block"
	"waybill/chance"
)

// roomy tells a value again, all its lists with room beyond their ends, in which something stands.
func roomy[T any](row *chance.Row, x T) T {
	return widened(row, reflect.ValueOf(x)).Interface().(T)
}

func widened(row *chance.Row, v reflect.Value) reflect.Value {
	out := reflect.New(v.Type()).Elem()
	out.Set(v)
	switch v.Kind() {
	case reflect.Struct:
		for i := range v.NumField() {
			out.Field(i).Set(widened(row, v.Field(i)))
		}
	case reflect.Slice:
		n := v.Len()
		more := reflect.MakeSlice(v.Type(), n+2, n+2)
		for i := range n {
			more.Index(i).Set(widened(row, v.Index(i)))
		}
		for i := range 2 {
			colour(more.Index(n+i), row.Below(1000))
		}
		out.Set(more.Slice(0, n))
	}
	return out
}

// whole tells a value with all that stands in the room beyond its lists' ends, in memory of its own.
func whole[T any](x T) T { return deep(reflect.ValueOf(x), true).Interface().(T) }

// listsIn tells all lists anywhere in a value, each with the room beyond its end.
func listsIn(v reflect.Value) []reflect.Value {
	var all []reflect.Value
	switch v.Kind() {
	case reflect.Struct:
		for i := range v.NumField() {
			all = append(all, listsIn(v.Field(i))...)
		}
	case reflect.Slice:
		v = v.Slice3(0, v.Cap(), v.Cap())
		all = append(all, v)
		for i := 0; i < v.Len() && v.Type().Elem().Kind() == reflect.Struct; i++ {
			all = append(all, listsIn(v.Index(i))...)
		}
	}
	return all
}

// colour fills all of a value with a number; lists in it become nil.
func colour(v reflect.Value, n int) {
	switch v.Kind() {
	case reflect.Uint8, reflect.Uint64:
		v.SetUint(uint64(n))
	case reflect.Int:
		v.SetInt(int64(n))
	case reflect.Bool:
		v.SetBool(n%2 == 1)
	case reflect.Array:
		for i := range v.Len() {
			colour(v.Index(i), n)
		}
	case reflect.Struct:
		for i := range v.NumField() {
			colour(v.Field(i), n)
		}
	case reflect.Slice:
		v.SetZero()
	}
}

// areApart paints each list in some values in a colour of its own, with the room beyond its end, and tells whether each one keeps it. The values are spoilt then.
func areApart(values ...any) bool {
	var lists []reflect.Value
	for _, x := range values {
		lists = append(lists, listsIn(reflect.ValueOf(x))...)
	}
	for n, l := range lists {
		for i := range l.Len() {
			colour(l.Index(i), n+1)
		}
	}
	for n, l := range lists {
		want := reflect.New(l.Type().Elem()).Elem()
		colour(want, n+1)
		for i := range l.Len() {
			if !sameValue(l.Index(i), want) {
				return false
			}
		}
	}
	return true
}

// spoil paints all that stands in the lists of a value, the room beyond their ends too.
func spoil(x any) { areApart(x) }

// knotted tells a block of a tail some of whose lists are one memory.
func knotted(row *chance.Row, tail int) api.Block {
	b := anyBlock(row, tail)
	for range 2 {
		b.Txs = append(b.Txs, anyTx(row, 4), anyTx(row, 2))
	}
	n := len(b.Txs)
	b.Txs[n-1].Access, b.Txs[n-1].Data = b.Txs[n-2].Access, b.Txs[n-3].Data
	b.Txs[n-2].Auths = b.Txs[n-4].Auths
	b.Txs[n-4].Access = []api.AccessEntry{{Keys: []api.Hash{{1}}}, {}}
	b.Txs[n-4].Access[1].Keys = b.Txs[n-4].Access[0].Keys
	b.Uncles = append(b.Uncles, api.Header{Extra: []byte("extra")}, api.Header{Extra: []byte("other")})
	b.Header.Extra = b.Uncles[len(b.Uncles)-1].Extra
	return b
}

// The helpers themselves.
func TestApartHelpers(t *testing.T) {
	row := chance.Row(2060)
	for n := range 50 {
		b := anyBlock(&row, n%tails)
		r := roomy(&row, b)
		if !same(r, b) || cap(r.Txs) != len(r.Txs)+2 || cap(r.Header.Extra) != len(r.Header.Extra)+2 || same(whole(r), r) || !same(whole(r), whole(r)) {
			t.Fatal("roomy or whole")
		}
		before := whole(r)
		if !areApart(r) || same(whole(r), before) {
			t.Fatal("lists that are apart are told to share memory, or were not painted")
		}
		if areApart(knotted(&row, n%tails)) {
			t.Fatal("lists that share memory are told to be apart")
		}
	}
	if c := []byte("abc"); areApart(c, c[2:]) || areApart(c[:1], c[:2]) || !areApart(c[:1:1], c[1:2:2]) {
		t.Fatal("areApart")
	}
}

// P20.10, P0.3: no root's call writes into what it is given, nor into the room behind; what is written there later changes nothing.
func TestRootsApart(t *testing.T) {
	row := chance.Row(2061)
	for n := range 100 {
		b, receipts := anyDone(&row, n%tails)
		b, receipts = roomy(&row, b), roomy(&row, receipts)
		before, told := whole(b), whole(receipts)
		txs, e := block.TxRoot(b.Txs)
		rcs, f := block.ReceiptRoot(receipts)
		draws, g := block.WithdrawalRoot(b.Withdrawals)
		uncles, h := block.UncleHash(b.Uncles)
		if e != api.OK || f != api.OK || g != api.OK || h != api.OK || !same(whole(b), before) || !same(whole(receipts), told) {
			t.Fatalf("%d, %d, %d, %d, or something was written to", e, f, g, h)
		}
		wantTxs, _ := modelTxRoot(b.Txs)
		wantRcs, _ := modelReceiptRoot(receipts)
		wantDraws, _ := modelDrawRoot(b.Withdrawals)
		wantUncles, _ := modelUncleHash(b.Uncles)
		if txs != wantTxs || rcs != wantRcs || draws != wantDraws || uncles != wantUncles {
			t.Fatal("the room beyond a list's end counts")
		}
	}
}

// P20.10, P0.3: Encode, Check, Seal and CheckReceipts write nothing into a block or receipts, taken or refused; what is answered shares nothing with them, nor with another answer, nor within itself.
func TestBlocksApart(t *testing.T) {
	row := chance.Row(2062)
	for n := range 300 {
		bare := knotted(&row, n%tails)
		b := roomy(&row, bare)
		m := len(b.Txs)
		b.Txs[m-1].Access, b.Txs[m-2].Auths, b.Txs[m-4].Access[1].Keys = b.Txs[m-2].Access, b.Txs[m-4].Auths, b.Txs[m-4].Access[0].Keys
		before := whole(b)
		want, _ := modelEncode(bare)
		sealed, _ := modelSeal(bare)
		first, e := block.Encode(b)
		second, f := block.Encode(b)
		s, g := block.Seal(b)
		r, h := block.Seal(b)
		block.Check(b)
		block.CheckReceipts(b, nil)
		if e != api.OK || f != api.OK || g != api.OK || h != api.OK || !same(whole(b), before) {
			t.Fatalf("%d, %d, %d, %d, or the block was written to", e, f, g, h)
		}
		if !same(s, sealed) || !same(r, sealed) || !bytes.Equal(first, want) || !areApart(first, s) || !same(whole(b), before) {
			t.Fatal("lists of an answer share memory with each other, or with the block")
		}
		spoil(b)
		if !same(r, sealed) || !bytes.Equal(second, want) {
			t.Fatal("an answer changes with the block, or with another answer")
		}
	}
}

// P20.10, P0.3: what is refused is not written to.
func TestRefusedApart(t *testing.T) {
	row := chance.Row(2063)
	for n := range 200 {
		b, receipts := anyDone(&row, n%tails)
		b.Txs, b.Uncles = append(b.Txs, anyTx(&row, 1)), append(b.Uncles, anyUncle(&row))
		switch n % 7 {
		case 0:
			b.Header.Extra = row.Text(40)
		case 1:
			b.Drawn = !b.Drawn
		case 2:
			b.Txs[len(b.Txs)-1].V = top
		case 3:
			b.Uncles[0].Extra = row.Text(33)
		case 4:
			b.Header.TxRoot[0] ^= 1
		case 5:
			receipts = append(receipts, api.Receipt{Type: 9})
		}
		b, receipts = roomy(&row, b), roomy(&row, receipts)
		before, told := whole(b), whole(receipts)
		block.Encode(b)
		block.Check(b)
		block.Seal(b)
		block.CheckReceipts(b, receipts)
		block.TxRoot(b.Txs)
		block.UncleHash(b.Uncles)
		block.ReceiptRoot(receipts)
		if !same(whole(b), before) || !same(whole(receipts), told) {
			t.Fatal("what is refused was written to")
		}
	}
}

// P20.10, P0.3: CheckReceipts of right receipts writes nothing.
func TestReceiptsApart(t *testing.T) {
	row := chance.Row(2064)
	for n := range 100 {
		b, receipts := anyDone(&row, n%tails)
		b, receipts = roomy(&row, b), roomy(&row, receipts)
		before, told := whole(b), whole(receipts)
		if e := block.CheckReceipts(b, receipts); e != api.OK || !same(whole(b), before) || !same(whole(receipts), told) {
			t.Fatalf("%d, or something was written to", e)
		}
	}
}

// P20.10, P0.3: Decode writes nothing into the bytes, taken or refused; the block shares nothing with them, nor with another one, nor do its lists with each other.
func TestDecodeApart(t *testing.T) {
	row := chance.Row(2065)
	for n := range 300 {
		bare := knotted(&row, n%tails)
		data, _ := modelEncode(bare)
		b, memory := row.Roomy(len(data))
		copy(b, data)
		before := slices.Clone(memory)
		first, e := block.Decode(b)
		second, f := block.Decode(b)
		if e != api.OK || f != api.OK || !same(first, bare) || !bytes.Equal(memory, before) {
			t.Fatalf("%d, %d, or the bytes were written to", e, f)
		}
		if !areApart(first) || !bytes.Equal(memory, before) || !same(second, bare) {
			t.Fatal("the lists of a block share memory with each other, with the bytes or with another block")
		}
		for i := range memory {
			memory[i] = 0xee
		}
		if !same(second, bare) {
			t.Fatal("the block changes with the bytes")
		}
		data = modelBytes(spoilt(&row, modelTree(bare)))
		b, memory = row.Roomy(len(data))
		copy(b, data)
		before = slices.Clone(memory)
		block.Decode(b)
		if !bytes.Equal(memory, before) {
			t.Fatal("bytes that are refused were written to")
		}
	}
}

// P0.4: nil and a list of length 0 are the same.
func TestNilAndEmpty(t *testing.T) {
	for tail := range tails {
		a := api.Block{Header: api.Header{Tail: tail}, Drawn: tail >= 2, Txs: []api.Tx{plainTx(1)}}
		b := roomy(new(chance.Row), a)
		x, e := block.Encode(a)
		y, f := block.Encode(b)
		s, g := block.Seal(a)
		r, h := block.Seal(b)
		if !bytes.Equal(x, y) || e != api.OK || f != api.OK || !same(s, r) || g != api.OK || h != api.OK || block.Check(a) != block.Check(b) {
			t.Errorf("tail %d, nil and empty: %d, %d, %d, %d", tail, e, f, g, h)
		}
		none := api.Block{Header: api.Header{Tail: tail, Extra: []byte{}}, Drawn: tail >= 2, Txs: []api.Tx{}, Uncles: []api.Header{}, Withdrawals: []api.Withdrawal{}}
		wantEncode(t, "empty lists", none, api.OK)
		wantSeal(t, "empty lists", none, api.OK)
	}
	for _, data := range [][]byte{nil, {}, make([]byte, 0, 5)} {
		wantDecode(t, "no bytes", data, api.ErrRlpEnd)
	}
}

// P0.6: the same again has the same answer, also while others ask at the same time.
func TestSameAgain(t *testing.T) {
	row := chance.Row(2066)
	var blocks []api.Block
	var told [][]api.Receipt
	var texts [][]byte
	for tail := range tails {
		b, receipts := anyDone(&row, tail)
		data, _ := modelEncode(b)
		blocks, told, texts = append(blocks, b), append(told, receipts), append(texts, data)
	}
	var workers sync.WaitGroup
	for first := range 8 {
		workers.Go(func() {
			for n := range 20 {
				i := (first + n) % tails
				data, e := block.Encode(blocks[i])
				b, f := block.Decode(data)
				s, g := block.Seal(b)
				if !bytes.Equal(data, texts[i]) || e != api.OK || f != api.OK || g != api.OK || !same(b, blocks[i]) || !same(s, b) || block.CheckReceipts(b, told[i]) != api.OK {
					t.Errorf("the same again: %d, %d, %d", e, f, g)
				}
				block.Decode(data[:len(data)-1])
				block.Check(api.Block{Drawn: true})
			}
		})
	}
	workers.Wait()
}
