package header_test

import (
	"bytes"
	"slices"
	"sync"
	"testing"

	"waybill/api"
	"waybill/chance"
	"waybill/header"
)

func paint[T any](all []T, colour T) {
	for i := range all {
		all[i] = colour
	}
}

func isPainted[T any](all []T, is func(T) bool) bool {
	return !slices.ContainsFunc(all, func(one T) bool { return !is(one) })
}

// roomy tells a header again, its Extra with room beyond its end, in which something stands, and that whole memory.
func roomy(row *chance.Row, h api.Header) (api.Header, []byte) {
	extra, memory := row.Roomy(len(h.Extra))
	copy(extra, h.Extra)
	h.Extra = extra
	return h, memory
}

// areItemsApart paints each text and each list of items in a tree in a colour of its own, with the room beyond its end, and tells whether each one keeps it. The tree is spoilt then.
func areItemsApart(it api.Item) bool {
	texts := [][]byte{it.Data[:cap(it.Data)]}
	lists := [][]api.Item{it.Items[:cap(it.Items)]}
	for _, inner := range it.Items {
		texts, lists = append(texts, inner.Data[:cap(inner.Data)]), append(lists, inner.Items[:cap(inner.Items)])
	}
	for i := range texts {
		paint(texts[i], byte(i))
		paint(lists[i], small(uint64(i)))
	}
	for i := range texts {
		if !isPainted(texts[i], func(b byte) bool { return b == byte(i) }) || !isPainted(lists[i], func(it api.Item) bool { return same(it, small(uint64(i))) }) {
			return false
		}
	}
	return true
}

// P19.10, P0.3: no call writes into a header's Extra, nor into the room behind it, whether the header is taken or refused; what Item and Encode answer shares nothing with it, nor with another answer.
func TestItemsApart(t *testing.T) {
	row := chance.Row(1960)
	for n := range 500 {
		bare := anyHeader(&row, n%tails)
		h, memory := roomy(&row, bare)
		before := slices.Clone(memory)
		first, e := header.Item(h)
		second, f := header.Item(h)
		b, g := header.Encode(h)
		c, i := header.Encode(h)
		name, j := header.Hash(h)
		if e != api.OK || f != api.OK || g != api.OK || i != api.OK || j != api.OK || name != named(bare) || header.Check(h) != api.OK || !bytes.Equal(memory, before) {
			t.Fatalf("%d, %d, %d, %d, %d, or the header was written to", e, f, g, i, j)
		}
		if !areItemsApart(first) || !bytes.Equal(memory, before) {
			t.Fatal("the parts of an item share memory with each other, or with the header")
		}
		paint(b[:cap(b)], 0xee)
		if !bytes.Equal(memory, before) {
			t.Fatal("the bytes share memory with the header")
		}
		paint(memory, 0xee)
		if !same(second, modelTree(bare)) || !bytes.Equal(c, modelBytes(modelTree(bare))) {
			t.Fatal("an item or bytes change with the header, or with another answer")
		}
		wrong, memory := roomy(&row, turned(bare, func(h *api.Header) { h.Extra = row.Text(33) }))
		before = slices.Clone(memory)
		header.Item(wrong)
		header.Encode(wrong)
		header.Hash(wrong)
		if header.Check(wrong) != api.ErrHdExtra || !bytes.Equal(memory, before) {
			t.Fatal("a header that is refused was written to")
		}
	}
}

// roomyTree tells a tree again, all its lists with room beyond their ends, in which something stands.
func roomyTree(row *chance.Row, it api.Item) api.Item {
	data, _ := row.Roomy(len(it.Data))
	copy(data, it.Data)
	items := []api.Item{}
	for _, inner := range it.Items {
		items = append(items, roomyTree(row, inner))
	}
	n := len(items)
	items = append(items, text(1), list(text(2)))
	return api.Item{List: it.List, Data: data, Items: items[:n]}
}

// wholeTree tells a tree with all that stands in the room beyond its lists' ends, in memory of its own.
func wholeTree(it api.Item) api.Item {
	it.Data, it.Items = slices.Clone(it.Data[:cap(it.Data)]), slices.Clone(it.Items[:cap(it.Items)])
	for i, inner := range it.Items {
		it.Items[i] = wholeTree(inner)
	}
	return it
}

func spoilTree(it api.Item) {
	for _, inner := range it.Items[:cap(it.Items)] {
		spoilTree(inner)
	}
	paint(it.Data[:cap(it.Data)], 0xee)
	paint(it.Items[:cap(it.Items)], text(0xee))
}

// P19.10, P0.3: Parse writes nothing into an item, taken or refused; the header shares nothing with it, nor with another one; the room beyond a list's end counts for nothing.
func TestParseApart(t *testing.T) {
	row := chance.Row(1961)
	for n := range 500 {
		bare := anyHeader(&row, n%tails)
		it := roomyTree(&row, modelTree(bare))
		before := wholeTree(it)
		first, e := header.Parse(it)
		second, f := header.Parse(it)
		if e != api.OK || f != api.OK || !sameHeader(first, bare) || !same(wholeTree(it), before) {
			t.Fatalf("%d, %d, or the item was written to", e, f)
		}
		paint(first.Extra[:cap(first.Extra)], 0xee)
		if !same(wholeTree(it), before) || !sameHeader(second, bare) {
			t.Fatal("the headers share memory with each other, or with the item")
		}
		spoilTree(it)
		if !sameHeader(second, bare) {
			t.Fatal("the header changes with the item")
		}
		wrong := roomyTree(&row, spoilt(&row, modelTree(bare)))
		before = wholeTree(wrong)
		header.Parse(wrong)
		if !same(wholeTree(wrong), before) {
			t.Fatal("an item that is refused was written to")
		}
	}
}

// P19.10, P0.3: Decode writes nothing into the bytes, taken or refused; the header shares nothing with them, nor with another one.
func TestDecodeApart(t *testing.T) {
	row := chance.Row(1962)
	for n := range 500 {
		bare := anyHeader(&row, n%tails)
		data := modelBytes(modelTree(bare))
		b, memory := row.Roomy(len(data))
		copy(b, data)
		before := slices.Clone(memory)
		first, e := header.Decode(b)
		second, f := header.Decode(b)
		if e != api.OK || f != api.OK || !sameHeader(first, bare) || !bytes.Equal(memory, before) {
			t.Fatalf("%d, %d, or the bytes were written to", e, f)
		}
		paint(first.Extra[:cap(first.Extra)], 0xee)
		if !bytes.Equal(memory, before) || !sameHeader(second, bare) {
			t.Fatal("the headers share memory with each other, or with the bytes")
		}
		paint(memory, 0xee)
		if !sameHeader(second, bare) {
			t.Fatal("the header changes with the bytes")
		}
		data = modelBytes(spoilt(&row, modelTree(bare)))
		b, memory = row.Roomy(len(data))
		copy(b, data)
		before = slices.Clone(memory)
		header.Decode(b)
		if !bytes.Equal(memory, before) {
			t.Fatal("bytes that are refused were written to")
		}
	}
}

// P19.10, P0.3: Child, Next and Chain write nothing into headers, nor into the room behind their lists' ends; what Next makes has nothing of the parent's memory.
func TestFollowApart(t *testing.T) {
	row := chance.Row(1963)
	for range 300 {
		all := anyChain(&row, 6)
		n := len(all)
		memories, before := [][]byte{}, [][]byte{}
		for i := range all {
			var memory []byte
			all[i], memory = roomy(&row, all[i])
			memories, before = append(memories, memory), append(before, slices.Clone(memory))
		}
		held := append(slices.Clone(all), anyHeader(&row, 2), anyHeader(&row, 1))
		ahead := slices.Clone(held)
		if got, e := header.Chain(held[:n]); got != n || e != api.OK {
			t.Fatalf("Chain: %d, %d", got, e)
		}
		parent := held[n-1]
		next, e := header.Next(parent, parent.Time+1, 4)
		again, f := header.Next(parent, parent.Time+1, 4)
		if e != api.OK || f != api.OK || len(next.Extra) != 0 || !sameHeader(next, again) || header.Child(parent, next) != api.OK {
			t.Fatalf("Next: %d, %d", e, f)
		}
		paint(next.Extra[:cap(next.Extra)], 0xee)
		header.Child(next, parent)
		header.Chain(held)
		if !slices.EqualFunc(held, ahead, sameHeader) {
			t.Fatal("the list was written to")
		}
		for i := range memories {
			if !bytes.Equal(memories[i], before[i]) {
				t.Fatal("a header was written to")
			}
			paint(memories[i], 0xee)
		}
		if !sameHeader(next, again) {
			t.Fatal("what Next has made changes with the parent")
		}
	}
}

// P0.4: nil and a list of length 0 are the same.
func TestNilAndEmpty(t *testing.T) {
	for tail := range tails {
		a, b := plain(tail), turned(plain(tail), func(h *api.Header) { h.Extra = make([]byte, 0, 40) })
		x, e := header.Encode(a)
		y, f := header.Encode(b)
		if !bytes.Equal(x, y) || e != api.OK || f != api.OK || header.Check(b) != api.OK {
			t.Errorf("tail %d, nil and empty: %x, %d; %x, %d", tail, x, e, y, f)
		}
		next, e := header.Next(b, 2000, tail)
		if e != api.OK || header.Child(a, next) != api.OK || header.Child(b, next) != api.OK {
			t.Errorf("tail %d, Next: %d", tail, e)
		}
		it := modelTree(a)
		it.Data = []byte{}
		for i := range it.Items {
			it.Items[i].Items = []api.Item{}
			if len(it.Items[i].Data) == 0 {
				it.Items[i].Data = []byte{}
			}
		}
		if h, e := header.Parse(it); !sameHeader(h, a) || e != api.OK {
			t.Errorf("tail %d, Parse of empty lists: %+v, %d", tail, h, e)
		}
	}
	for _, b := range [][]byte{nil, {}, make([]byte, 0, 5)} {
		wantDecode(t, b, api.ErrRlpEnd)
	}
	for _, it := range []api.Item{{List: true}, {List: true, Items: []api.Item{}, Data: []byte{}}} {
		wantParse(t, it, api.ErrHdFields)
	}
}

// P0.6: the same again has the same answer, also while others ask at the same time.
func TestSameAgain(t *testing.T) {
	row := chance.Row(1964)
	all := anyChain(&row, 12)
	var workers sync.WaitGroup
	for first := range 8 {
		workers.Go(func() {
			for n := range 60 {
				h := all[(first+n)%len(all)]
				b, e := header.Encode(h)
				again, f := header.Decode(b)
				if !bytes.Equal(b, modelBytes(modelTree(h))) || e != api.OK || f != api.OK || !sameHeader(h, again) {
					t.Errorf("Encode and Decode: %d, %d", e, f)
				}
				header.Decode(b[:len(b)-1])
				next, e := header.Next(h, h.Time+5, 4)
				if want, wantE := modelNext(h, h.Time+5, 4); !sameHeader(next, want) || e != wantE {
					t.Errorf("Next: %d", e)
				}
				if n, e := header.Chain(all); n != len(all) || e != api.OK {
					t.Errorf("Chain: %d, %d", n, e)
				}
				header.Bounds(h.Limit)
			}
		})
	}
	workers.Wait()
}
