package wire_test

import (
	"bytes"
	"reflect"
	"slices"
	"sync"
	"testing"

	"waybill/api"
	"waybill/chance"
	"waybill/wire"
)

// roomy tells a value again, all its lists with room beyond their ends, in which something stands.
func roomy[T any](row *chance.Row, x T) T {
	return widened(row, reflect.ValueOf(x)).Interface().(T)
}

func widened(row *chance.Row, v reflect.Value) reflect.Value {
	out := reflect.New(v.Type()).Elem()
	out.Set(v)
	switch v.Kind() {
	case reflect.Struct:
		for i := range v.NumField() {
			out.Field(i).Set(widened(row, v.Field(i)))
		}
	case reflect.Slice:
		n := v.Len()
		more := reflect.MakeSlice(v.Type(), n+2, n+2)
		for i := range n {
			more.Index(i).Set(widened(row, v.Index(i)))
		}
		for i := range 2 {
			colour(more.Index(n+i), row.Below(1000))
		}
		out.Set(more.Slice(0, n))
	}
	return out
}

// whole tells a value with all that stands in the room beyond its lists' ends, in memory of its own.
func whole[T any](x T) T { return deep(reflect.ValueOf(x)).Interface().(T) }

func deep(v reflect.Value) reflect.Value {
	out := reflect.New(v.Type()).Elem()
	out.Set(v)
	switch v.Kind() {
	case reflect.Struct:
		for i := range v.NumField() {
			out.Field(i).Set(deep(v.Field(i)))
		}
	case reflect.Slice:
		n := v.Cap()
		out.Set(reflect.MakeSlice(v.Type(), n, n))
		for i := range n {
			out.Index(i).Set(deep(v.Slice3(0, n, n).Index(i)))
		}
	}
	return out
}

// listsIn tells all lists anywhere in a value, each with the room beyond its end.
func listsIn(v reflect.Value) []reflect.Value {
	var all []reflect.Value
	switch v.Kind() {
	case reflect.Struct:
		for i := range v.NumField() {
			all = append(all, listsIn(v.Field(i))...)
		}
	case reflect.Slice:
		v = v.Slice3(0, v.Cap(), v.Cap())
		all = append(all, v)
		for i := range v.Len() {
			all = append(all, listsIn(v.Index(i))...)
		}
	}
	return all
}

// colour fills all of a value with a number; lists in it become nil.
func colour(v reflect.Value, n int) {
	switch v.Kind() {
	case reflect.Uint8, reflect.Uint64:
		v.SetUint(uint64(n))
	case reflect.Int:
		v.SetInt(int64(n))
	case reflect.Bool:
		v.SetBool(n%2 == 1)
	case reflect.Array:
		for i := range v.Len() {
			colour(v.Index(i), n)
		}
	case reflect.Struct:
		for i := range v.NumField() {
			colour(v.Field(i), n)
		}
	case reflect.Slice:
		v.SetZero()
	}
}

// areApart paints each list in some values in a colour of its own, with the room beyond its end, and tells whether each one keeps it. The values are spoilt then.
func areApart(values ...any) bool {
	var lists []reflect.Value
	for _, x := range values {
		lists = append(lists, listsIn(reflect.ValueOf(x))...)
	}
	for n, l := range lists {
		for i := range l.Len() {
			colour(l.Index(i), n+1)
		}
	}
	for n, l := range lists {
		want := reflect.New(l.Type().Elem()).Elem()
		colour(want, n+1)
		for i := range l.Len() {
			if !sameValue(l.Index(i), want) {
				return false
			}
		}
	}
	return true
}

// spoil paints all that stands in the lists of values, the room beyond their ends too.
func spoil(values ...any) { areApart(values...) }

// knotted tells things of which two have the same lists, in one memory.
func knotted[T any](row *chance.Row, p paper[T]) []T {
	l := several(row, 3, func(row *chance.Row) T { return p.any(row, row.Below(kinds)) })
	x := p.grown(row.Below(kinds), 50)
	return append(l, x, p.any(row, 4), x)
}

// The helpers themselves.
func TestApartHelpers(t *testing.T) {
	row := chance.Row(2570)
	for range 50 {
		l := []api.Tx{anyTx(&row, 4), anyTx(&row, 3)}
		r := roomy(&row, l)
		if !same(r, l) || cap(r) != 4 || cap(r[0].Auths) != len(l[0].Auths)+2 || same(whole(r), r) || !same(whole(r), whole(r)) {
			t.Fatal("roomy or whole")
		}
		before := whole(r)
		if !areApart(r) || same(whole(r), before) {
			t.Fatal("lists that are apart are told to share memory, or were not painted")
		}
		if areApart(knotted(&row, txs())) || areApart(knotted(&row, receipts())) {
			t.Fatal("lists that share memory are told to be apart")
		}
	}
	if c := []byte("abc"); areApart(c, c[2:]) || areApart(c[:1], c[:2]) || !areApart(c[:1:1], c[1:2:2]) {
		t.Fatal("areApart")
	}
}

func tryEncodeApart[T any](t *testing.T, p paper[T]) {
	row := chance.Row(2571)
	for n := range 150 {
		bare := knotted(&row, p)
		want, _ := p.modelEncode(bare)
		root, _ := p.modelRoot(bare)
		one, _ := p.encode(bare[0])
		l := roomy(&row, bare)
		l[len(l)-1] = l[len(l)-3] // knotted again
		if n%3 == 0 {
			l[len(l)-2] = roomy(&row, p.wrongs[n%5])
		}
		before := whole(l)
		first, e := p.encodeList(l)
		second, _ := p.encodeList(l)
		own, _ := p.encodeOne(l[0])
		again, _ := p.encodeOne(l[0])
		h, f := p.root(l)
		if !same(whole(l), before) {
			t.Fatal("the things were written to")
		}
		if n%3 == 0 {
			if e == api.OK || f == api.OK || len(first) > 0 {
				t.Fatalf("a wrong one: %d, %d", e, f)
			}
			continue
		}
		if !bytes.Equal(first, want) || !bytes.Equal(own, one) || h != root || e != api.OK || f != api.OK {
			t.Fatalf("%d, %d, or the room beyond a list's end counts", e, f)
		}
		if !areApart(first, own) || !same(whole(l), before) {
			t.Fatal("the bytes share memory with each other, or with the things")
		}
		spoil(l)
		if !bytes.Equal(second, want) || !bytes.Equal(again, one) {
			t.Fatal("the bytes change with the things, or with other bytes")
		}
	}
}

// P0.3: no encoding and no root writes into the things, taken or refused; what is answered shares nothing with them, nor with another answer.
func TestEncodeApart(t *testing.T) {
	t.Run("txs", func(t *testing.T) { tryEncodeApart(t, txs()) })
	t.Run("receipts", func(t *testing.T) { tryEncodeApart(t, receipts()) })
}

func tryDecodeApart[T any](t *testing.T, p paper[T]) {
	row := chance.Row(2572)
	for range 150 {
		bare := knotted(&row, p)
		data, _ := p.modelEncode(bare)
		own, _ := p.encode(bare[0])
		for _, right := range []bool{true, false} {
			if !right {
				data, own = spoilt(&row, data), spoilt(&row, own)
			}
			b, memory := row.Roomy(len(data))
			c, other := row.Roomy(len(own))
			copy(b, data)
			copy(c, own)
			before, told := slices.Clone(memory), slices.Clone(other)
			first, _ := p.decodeList(b)
			second, e := p.decodeList(b)
			one, _ := p.decodeOne(c)
			again, f := p.decodeOne(c)
			if !bytes.Equal(memory, before) || !bytes.Equal(other, told) {
				t.Fatal("the bytes were written to")
			}
			if !right {
				continue
			}
			if !same(first, bare) || e != api.OK || f != api.OK || !areApart(first, one) || !bytes.Equal(memory, before) || !bytes.Equal(other, told) {
				t.Fatal("lists of the things share memory with each other, or with the bytes")
			}
			spoil(memory, other)
			if !same(second, bare) || !same(again, bare[0]) {
				t.Fatal("the things change with the bytes, or with others")
			}
		}
	}
}

// P0.3: no decoding writes into the bytes, taken or refused; the things share nothing with them, nor with other ones, nor do their lists with each other.
func TestDecodeApart(t *testing.T) {
	t.Run("txs", func(t *testing.T) { tryDecodeApart(t, txs()) })
	t.Run("receipts", func(t *testing.T) { tryDecodeApart(t, receipts()) })
}

// P0.3: TxHash, Sender, Senders and Kind write nothing into the texts; what Senders answers shares nothing with another answer.
func TestTextsApart(t *testing.T) {
	row := chance.Row(2573)
	for n := range 10 {
		bare := mixed(&row, 12)
		var want []api.Sent
		for _, b := range bare {
			want = append(want, modelSent(b))
		}
		texts := roomy(&row, bare)
		texts[5], texts[6] = texts[0][:len(texts[0])/2], texts[0] // parts of one memory
		want[5], want[6] = modelSent(bare[0][:len(bare[0])/2]), want[0]
		before := whole(texts)
		first, e := wire.Senders(texts, 1+n)
		second, f := wire.Senders(texts, 5)
		for _, b := range texts {
			wire.TxHash(b)
			wire.Sender(b)
			wire.Kind(b)
		}
		if !same(whole(texts), before) || !slices.Equal(first, want) || e != api.OK || f != api.OK {
			t.Fatalf("%d, %d, or the texts were written to", e, f)
		}
		spoil(first)
		spoil(texts)
		if !slices.Equal(second, want) {
			t.Fatal("an answer changes with the texts, or with another answer")
		}
	}
}

// P0.3: Bloom and Filter write nothing into what they are given; what Filter answers shares nothing with another answer; the room beyond a list's end counts for nothing.
func TestFilterApart(t *testing.T) {
	row := chance.Row(2574)
	for n := range 200 {
		bare := knotted(&row, receipts())
		want, _ := modelFilter(bare, []api.Address{{19: 1}, {19: 2}, {}}, [][]api.Hash{nil})
		l := roomy(&row, bare)
		if n%4 == 0 {
			l[len(l)-2].Bloom[0] ^= 1
		}
		addresses := roomy(&row, []api.Address{{19: 1}, {19: 2}, {}})
		topics := roomy(&row, [][]api.Hash{nil})
		before, asked, told := whole(l), whole(addresses), whole(topics)
		first, e := wire.Filter(l, addresses, topics)
		second, _ := wire.Filter(l, addresses, topics)
		all := wire.Bloom(l...)
		if !same(whole(l), before) || !same(whole(addresses), asked) || !same(whole(topics), told) {
			t.Fatal("something was written to")
		}
		if n%4 == 0 {
			if len(first) > 0 || e != api.ErrRcBloom {
				t.Fatalf("a wrong one: %v, %d", first, e)
			}
			continue
		}
		if !slices.Equal(first, want) || e != api.OK || all != modelBloom(bare) {
			t.Fatalf("%v, %d, want %v", first, e, want)
		}
		spoil(first, l, addresses, topics)
		if !slices.Equal(second, want) {
			t.Fatal("an answer changes with the receipts, or with another answer")
		}
	}
}

func tryNilAndEmpty[T any](t *testing.T, p paper[T]) {
	wantEncode(t, p, "nil", nil, api.OK)
	wantEncode(t, p, "empty", []T{}, api.OK)
	wantRoot(t, p, "nil", nil, api.OK)
	wantRoot(t, p, "empty", make([]T, 0, 3), api.OK)
	row := chance.Row(2575)
	for kind := range kinds {
		x := p.plain(kind)
		y := roomy(&row, x)
		a, e := p.encodeList([]T{x})
		b, f := p.encodeList([]T{y})
		h, _ := p.root([]T{x})
		g, _ := p.root([]T{y})
		if !bytes.Equal(a, b) || h != g || e != api.OK || f != api.OK {
			t.Errorf("type %d: %x, %d; %x, %d", kind, a, e, b, f)
		}
	}
	for _, b := range [][]byte{nil, {}, make([]byte, 0, 5)} {
		wantDecode(t, p, "no bytes", b, api.ErrRlpEnd)
	}
}

// P0.4: nil and a list of length 0 are the same.
func TestNilAndEmpty(t *testing.T) {
	t.Run("txs", func(t *testing.T) { tryNilAndEmpty(t, txs()) })
	t.Run("receipts", func(t *testing.T) { tryNilAndEmpty(t, receipts()) })
	for _, b := range [][]byte{nil, {}, make([]byte, 0, 5)} {
		checkSent(t, b)
		wantKind(t, "no bytes", b, 0)
		checkSenders(t, [][]byte{b}, 1, 2)
	}
	checkSenders(t, [][]byte{}, 1, 64)
	wantFilter(t, "empty", []api.Receipt{}, []api.Address{}, [][]api.Hash{})
	wantFilter(t, "empty", []api.Receipt{paperOf(api.Log{Topics: []api.Hash{{}}})}, []api.Address{}, [][]api.Hash{{}}, 0)
	if wire.Bloom([]api.Receipt{}...) != (api.Bloom{}) {
		t.Error("Bloom of nothing")
	}
}

// P0.6: the same again has the same answer, also while others ask at the same time.
func TestSameAgain(t *testing.T) {
	row := chance.Row(2576)
	x, r := knotted(&row, txs()), knotted(&row, receipts())
	texts := mixed(&row, 16)
	txList, _ := txs().modelEncode(x)
	rcList, _ := receipts().modelEncode(r)
	txRoot, _ := txs().modelRoot(x)
	rcRoot, _ := receipts().modelRoot(r)
	places, _ := modelFilter(r, nil, [][]api.Hash{nil})
	var want []api.Sent
	for _, b := range texts {
		want = append(want, modelSent(b))
	}
	var group sync.WaitGroup
	for first := range 8 {
		group.Go(func() {
			for n := range 5 {
				a, e := wire.EncodeTxs(x)
				b, f := wire.EncodeReceipts(r)
				c, g := wire.DecodeTxs(txList)
				d, h := wire.DecodeReceipts(rcList)
				if !bytes.Equal(a, txList) || !bytes.Equal(b, rcList) || !same(c, x) || !same(d, r) || e != api.OK || f != api.OK || g != api.OK || h != api.OK {
					t.Errorf("the same lists again: %d, %d, %d, %d", e, f, g, h)
				}
				i, _ := wire.TxRoot(x)
				j, _ := wire.ReceiptRoot(r)
				k, _ := wire.Filter(r, nil, [][]api.Hash{nil})
				l, _ := wire.Senders(texts, 1+first*8+n)
				if i != txRoot || j != rcRoot || !slices.Equal(k, places) || !slices.Equal(l, want) || wire.Bloom(r...) != modelBloom(r) {
					t.Error("the same again")
				}
			}
		})
	}
	group.Wait()
}
