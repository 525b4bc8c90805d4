package block_test

import (
	"bytes"
	"slices"
	"testing"

	"waybill/api"
	"waybill/block"
	"waybill/chance"
	"waybill/header"
	"waybill/rlp"
	"waybill/tx"
)

// checkDecode holds Decode against its model (P20.4, P0.2); where it goes well, Encode of its answer is data (P20.5, P0.9). It tells Decode's error.
func checkDecode(t *testing.T, data []byte) api.Errno {
	t.Helper()
	want, wantE := modelDecode(data)
	b, e := block.Decode(data)
	if !same(b, want) || e != wantE {
		t.Errorf("Decode(%x) = %d, want %d, or another block", data[:min(len(data), 900)], e, wantE)
	}
	if e == api.OK {
		if again, f := block.Encode(b); !bytes.Equal(again, data) || f != api.OK {
			t.Errorf("Encode of Decode(%x): %d", data[:min(len(data), 900)], f)
		}
	}
	return e
}

func wantDecode(t *testing.T, why string, data []byte, want api.Errno) {
	t.Helper()
	wantErrno(t, why, checkDecode(t, data), want)
}

// wantTree asks for Decode of a tree's bytes.
func wantTree(t *testing.T, why string, it api.Item, want api.Errno) {
	t.Helper()
	wantDecode(t, why, modelBytes(it), want)
}

// headItem tells the item of a header of zeros with a tail.
func headItem(tail int) api.Item {
	it, e := header.Item(api.Header{Tail: tail})
	if e != api.OK {
		panic("no header")
	}
	return it
}

// P20.4: the chapter's third example.
func TestExamplesOfDecode(t *testing.T) {
	wantDecode(t, "c0", digits("c0"), api.ErrBkFields)
	wantDecode(t, "c2 c0 c0", digits("c2 c0 c0"), api.ErrBkFields)
	wantTree(t, "a list in a text", list(headItem(0), list(text(0xc0)), list()), api.ErrBkField)
	wantTree(t, "a text in the second place", list(headItem(0), text(), list()), api.ErrBkField)
}

// P20.4: what is no item at all, and what is no list of three or four.
func TestNoBlock(t *testing.T) {
	for _, c := range []struct {
		data string
		want api.Errno
	}{
		{"", api.ErrRlpEnd}, {"81", api.ErrRlpEnd}, {"8105", api.ErrRlpByte}, {"c000", api.ErrRlpRest}, {"f800", api.ErrRlpSize}, {"f801c0", api.ErrRlpSize}, {"c3c0c0", api.ErrRlpEnd}, {"c2 81 05", api.ErrRlpByte},
		{"80", api.ErrBkFields}, {"05", api.ErrBkFields}, {"83c0c0c0", api.ErrBkFields}, {"c1c0", api.ErrBkFields}, {"c5c0c0c0c0c0", api.ErrBkFields}, {"c6c0c0c0c0c0c0", api.ErrBkFields},
		{"c3c0c0c0", api.ErrHdFields}, {"c4c0c0c0c0", api.ErrHdFields}, {"c3 80 c0 c0", api.ErrRlpKind}, {"c4 05 80 80 80", api.ErrRlpKind},
	} {
		wantDecode(t, c.data, digits(c.data), c.want)
	}
	deep := func(n int) []byte {
		it := list()
		for range n - 1 {
			it = list(it)
		}
		return modelBytes(it)
	}
	wantDecode(t, "1024 lists, one within the other", deep(1024), api.ErrBkFields)
	wantDecode(t, "1025 lists, one within the other", deep(1025), api.ErrRlpDeep)
	for _, n := range []int{maxInput + 1, maxInput + 2, 2 * maxInput} {
		wantDecode(t, "too long", make([]byte, n), api.ErrLong)
		wantDecode(t, "too long", slices.Concat([]byte{0xc0}, make([]byte, n)), api.ErrLong)
	}
	wantDecode(t, "zeros", make([]byte, maxInput), api.ErrRlpRest)
}

// P20.4: what a text in the list of transactions begins with, each byte of them; and lists there.
func TestDecodeTx(t *testing.T) {
	for first := range 256 {
		for _, rest := range [][]byte{nil, {0xc0}, {0}, make([]byte, 60)} {
			data := append([]byte{byte(first)}, rest...)
			_, want := tx.Decode(data)
			if first >= 0xc0 {
				want = api.ErrBkField
			}
			wantTree(t, "a text", list(headItem(0), list(text(data...)), list()), want)
			wantTree(t, "a text behind another one", list(headItem(1), list(text(digits("01cb01808080808080c0808080")...), text(data...)), list()), want)
			if want == api.OK {
				t.Errorf("%x is a transaction", data)
			}
		}
	}
	for kind := range kinds {
		envelope, _ := tx.Encode(plainTx(kind))
		want := api.OK
		if kind == 0 {
			want = api.ErrBkField
		}
		wantTree(t, "an envelope as a text", list(headItem(0), list(text(envelope...)), list()), want)
		wantTree(t, "an envelope and a byte more", list(headItem(0), list(text(append(envelope, 0)...)), list()), map[bool]api.Errno{true: api.ErrBkField, false: api.ErrRlpRest}[kind == 0])
		it, _ := rlp.Decode(envelope[min(kind, 1):])
		want = api.ErrTxFields
		if kind == 0 {
			want = api.OK
		}
		wantTree(t, "an envelope's list", list(headItem(0), list(it), list()), want)
	}
	wantTree(t, "no bytes", list(headItem(0), list(text()), list()), api.ErrBkField)
	wantTree(t, "an empty list", list(headItem(0), list(list()), list()), api.ErrTxFields)
	wantTree(t, "a V that may not be", list(headItem(0), list(list(slices.Repeat([]api.Item{text()}, 9)...)), list()), api.ErrTxSig)
	wantTree(t, "a number with zeros ahead", list(headItem(0), list(list(append([]api.Item{text(0)}, slices.Repeat([]api.Item{text()}, 8)...)...)), list()), api.ErrRlpZero)
}

// P20.4: the items of withdrawals, right and wrong ones, in each field.
func TestDecodeWithdrawal(t *testing.T) {
	whole := drawTree(api.Withdrawal{Index: 1, Validator: 2, Amount: 3})
	try := func(why string, it api.Item, want api.Errno) {
		t.Helper()
		wantTree(t, why, list(headItem(2), list(), list(), list(it)), want)
		wantTree(t, why, list(headItem(4), list(), list(), list(whole, it, whole)), want)
	}
	try("a right one", whole, api.OK)
	for n := range 7 {
		if n != 4 {
			try("not four items", list(slices.Concat(whole.Items, whole.Items)[:n]...), api.ErrBkField)
		}
	}
	try("a text", text(), api.ErrBkField)
	try("a text", text(modelBytes(whole)...), api.ErrBkField)
	for _, i := range []int{0, 1, 3} {
		for n := range 12 {
			want := api.OK
			if n > 8 {
				want = api.ErrBkField
			}
			try("a scalar", replaced(whole, i, filled(0xff, n)), want)
			try("a scalar", replaced(whole, i, filled(1, n)), want)
			if n > 0 {
				try("zeros ahead", replaced(whole, i, filled(0, n)), api.ErrBkField)
				try("a zero ahead", replaced(whole, i, text(append([]byte{0}, bytes.Repeat([]byte{1}, n-1)...)...)), api.ErrBkField)
			}
		}
		try("a list", replaced(whole, i, list()), api.ErrBkField)
	}
	for n := range 40 {
		want := api.ErrBkField
		if n == 20 {
			want = api.OK
		}
		try("an address", replaced(whole, 2, filled(0, n)), want)
		try("an address", replaced(whole, 2, filled(0x81, n)), want)
	}
	try("a list", replaced(whole, 2, list()), api.ErrBkField)
	try("a list", replaced(whole, 2, list(slices.Repeat([]api.Item{text()}, 20)...)), api.ErrBkField)
}

// P20.4: the header's errors and those of an uncle are header.Parse's.
func TestDecodeHeaders(t *testing.T) {
	for tail := range tails {
		head := headItem(tail)
		whole := func(first api.Item, uncles ...api.Item) api.Item {
			it := list(first, list(), list(uncles...))
			if tail >= 2 {
				it.Items = append(it.Items, list())
			}
			return it
		}
		wantTree(t, "a header", whole(head), api.OK)
		for other := range tails {
			wantTree(t, "uncles", whole(head, headItem(other), head), api.OK)
		}
		for _, other := range append(changes(head), replaced(head, 12, filled(1, 33)), replaced(head, 8, text(0)), replaced(head, 6, filled(0, 255))) {
			_, want := header.Parse(other)
			wantTree(t, "an uncle", whole(head, head, other), want)
			if want != api.OK {
				wantTree(t, "another header", whole(other), want)
				wantTree(t, "another header, wrong uncles", whole(other, text()), want)
			}
		}
	}
}

// P20.4: with each tail three items and four.
func TestDecodeDrawn(t *testing.T) {
	for tail := range tails {
		for _, draws := range []api.Item{list(), list(drawTree(api.Withdrawal{Index: 5}))} {
			three, four := api.OK, api.ErrBkField
			if tail >= 2 {
				three, four = four, three
			}
			wantTree(t, "three", list(headItem(tail), list(), list()), three)
			wantTree(t, "four", list(headItem(tail), list(), list(), draws), four)
		}
		wantTree(t, "a text in the fourth place", list(headItem(tail), list(), list(), text()), api.ErrBkField)
	}
}

// P20.4, P0.1: every choice of wrong places: the first one in the chapter's order counts.
func TestDecodeOrder(t *testing.T) {
	right := []api.Item{headItem(2), list(text(digits("01cb01808080808080c0808080")...)), list(headItem(0)), list(drawTree(api.Withdrawal{}))}
	type wrong struct {
		it api.Item
		e  api.Errno
	}
	places := [4][]wrong{
		{{list(), api.ErrHdFields}, {text(), api.ErrRlpKind}, {replaced(headItem(2), 12, filled(1, 33)), api.ErrHdExtra}},
		{{text(), api.ErrBkField}, {list(text(0)), api.ErrTxType}, {list(text(0x80)), api.ErrTxForm}, {list(list(), text()), api.ErrTxFields}, {list(text(), list()), api.ErrBkField}},
		{{text(), api.ErrBkField}, {list(text(), list()), api.ErrRlpKind}, {list(headItem(1), list(), text()), api.ErrHdFields}},
		{{text(), api.ErrBkField}, {list(list()), api.ErrBkField}},
	}
	var try func(items []api.Item, want api.Errno)
	try = func(items []api.Item, want api.Errno) {
		if len(items) == 4 {
			wantTree(t, "four", list(items...), want)
			if want == api.OK {
				wantTree(t, "four, but Tail 1", replaced(list(items...), 0, headItem(1)), api.ErrBkField)
			}
			return
		}
		if len(items) == 3 { // a fourth one lacks: that counts behind all else
			three := want
			if three == api.OK {
				three = api.ErrBkField
			}
			wantTree(t, "three", list(items...), three)
		}
		place := len(items)
		try(append(slices.Clone(items), right[place]), want)
		for _, w := range places[place] {
			next := want
			if next == api.OK {
				next = w.e
			}
			try(append(slices.Clone(items), w.it), next)
		}
	}
	try(nil, api.OK)
	for i, w := range places[3] { // with a tail that has no withdrawals the fourth one is read all the same
		wantTree(t, "Tail 1 and a wrong fourth", list(headItem(1), list(), list(), w.it), places[3][i].e)
	}
	many := list(slices.Repeat([]api.Item{text()}, maxList)...)
	for i := 1; i < 4; i++ { // too many items, ahead of what is wrong behind, and behind what is wrong ahead
		it := replaced(list(right...), i, many)
		wantTree(t, "too many", it, api.ErrBkCount)
		wantTree(t, "too many, but Tail 1", replaced(it, 0, headItem(1)), api.ErrBkCount)
		for j := range 4 {
			for _, w := range places[j] {
				want := api.ErrBkCount
				if j < i {
					want = w.e
				}
				if j != i {
					wantTree(t, "too many and a wrong place", replaced(it, j, w.it), want)
				}
			}
		}
	}
}

// P20.4, P20.5: one fewer than MaxList items are read, MaxList are not: that counts ahead of what they are.
func TestDecodeCounts(t *testing.T) {
	one := text(digits("01cb01808080808080c0808080")...)
	for _, c := range []struct {
		it   api.Item
		want api.Errno
	}{
		{list(headItem(2), list(slices.Repeat([]api.Item{one}, maxList-1)...), list(), list()), api.OK},
		{list(headItem(2), list(slices.Repeat([]api.Item{one}, maxList)...), list(), list()), api.ErrBkCount},
		{list(headItem(2), list(), list(), list(slices.Repeat([]api.Item{drawTree(api.Withdrawal{})}, maxList-1)...)), api.OK},
		{list(headItem(2), list(), list(), list(slices.Repeat([]api.Item{drawTree(api.Withdrawal{})}, maxList)...)), api.ErrBkCount},
		{list(headItem(2), list(slices.Repeat([]api.Item{text()}, maxList-1)...), list(), list()), api.ErrBkField},
		{list(headItem(2), list(), list(slices.Repeat([]api.Item{text()}, maxList-1)...), list()), api.ErrRlpKind},
		{list(headItem(2), list(), list(slices.Repeat([]api.Item{text()}, maxList)...), list()), api.ErrBkCount},
		{list(headItem(2), list(), list(slices.Repeat([]api.Item{list()}, maxList*3)...), list()), api.ErrBkCount},
		{list(headItem(2), list(slices.Repeat([]api.Item{list()}, 1<<20)...), list(), list()), api.ErrBkCount},
	} {
		wantTree(t, "many items", c.it, c.want)
	}
}

// P20.4, P20.5, P0.9: every step away from blocks of each tail.
func TestDecodeEachChange(t *testing.T) {
	row := chance.Row(2030)
	counts := map[api.Errno]int{}
	for tail := range tails {
		b := full(tail)
		b.Uncles = b.Uncles[tail : tail+1]
		eachChange(modelTree(b), func(it api.Item) { counts[checkDecode(t, modelBytes(it))]++ })
	}
	eachChange(modelTree(anyBlock(&row, 2)), func(it api.Item) { counts[checkDecode(t, modelBytes(it))]++ })
	for _, e := range []api.Errno{api.OK, api.ErrBkFields, api.ErrBkField, api.ErrHdFields, api.ErrHdExtra, api.ErrRlpKind, api.ErrRlpWide, api.ErrRlpZero, api.ErrTxFields, api.ErrTxType, api.ErrTxForm, api.ErrTxSig} {
		if counts[e] < 5 {
			t.Errorf("the answer %d hardly ever comes: %v", e, counts)
		}
	}
}

// P20.4, P20.5, P0.9: blocks with several steps away from right ones, and with bytes changed, cut off and put in.
func TestDecodeByChance(t *testing.T) {
	row := chance.Row(2031)
	counts := map[api.Errno]int{}
	for n := range 4000 {
		it := modelTree(anyBlock(&row, n%tails))
		for range row.Below(4) {
			it = spoilt(&row, it)
		}
		data := modelBytes(it)
		counts[checkDecode(t, data)]++
		i := row.Below(len(data))
		switch row.Below(4) {
		case 0:
			data[i] ^= 1 << row.Below(8)
		case 1:
			data = data[:i]
		case 2:
			data = slices.Insert(data, i, byte(row.Next()))
		case 3:
			data = slices.Delete(data, i, i+1)
		}
		counts[checkDecode(t, data)]++
	}
	if counts[api.OK] < 500 || counts[api.ErrBkField] < 50 || counts[api.ErrRlpEnd] < 50 || counts[api.ErrRlpRest] < 50 {
		t.Errorf("the answers: %v", counts)
	}
}
