package wire_test

import (
	"bytes"
	"slices"
	"testing"

	"waybill/api"
	"waybill/block"
	"waybill/chance"
	"waybill/rlp"
	"waybill/wire"
)

// checkDecode holds the decoding of a list against its model (P25.2, P0.2); where it goes well, the encoding of its answer is b (P25.3). It tells the error.
func checkDecode[T any](t *testing.T, p paper[T], b []byte) api.Errno {
	t.Helper()
	want, wantE := p.modelDecode(b)
	l, e := p.decodeList(b)
	if !same(l, want) || e != wantE || e != api.OK && len(l) > 0 {
		t.Errorf("Decode(%x): %d things, %d, want %d things, %d", short(b), len(l), e, len(want), wantE)
	}
	if e == api.OK {
		if again, f := p.encodeList(l); !bytes.Equal(again, b) || f != api.OK {
			t.Errorf("Encode of Decode(%x) = %x, %d", short(b), short(again), f)
		}
	}
	return e
}

func wantDecode[T any](t *testing.T, p paper[T], why string, b []byte, want api.Errno) {
	t.Helper()
	if e := checkDecode(t, p, b); e != want {
		t.Errorf("%s: Decode(%x): %d, want %d", why, short(b), e, want)
	}
}

// checkEncode does it with the encoding (P25.2, P25.3, P0.2).
func checkEncode[T any](t *testing.T, p paper[T], l []T) api.Errno {
	t.Helper()
	want, wantE := p.modelEncode(l)
	b, e := p.encodeList(l)
	if !bytes.Equal(b, want) || e != wantE || e != api.OK && len(b) > 0 {
		t.Errorf("Encode of %d things = %x, %d, want %x, %d", len(l), short(b), e, short(want), wantE)
	}
	if e == api.OK {
		if again, f := p.decodeList(b); !same(again, l) || f != api.OK {
			t.Errorf("Decode of Encode of %d things: %d things, %d", len(l), len(again), f)
		}
	}
	return e
}

func wantEncode[T any](t *testing.T, p paper[T], why string, l []T, want api.Errno) {
	t.Helper()
	if e := checkEncode(t, p, l); e != want {
		t.Errorf("%s: Encode of %d things: %d, want %d", why, len(l), e, want)
	}
}

// P25.2: the chapter's first example, and the same of receipts.
func TestExamplesOfLists(t *testing.T) {
	if b, e := wire.EncodeTxs(nil); !bytes.Equal(b, digits("c0")) || e != api.OK {
		t.Errorf("EncodeTxs(nothing) = %x, %d", b, e)
	}
	if b, e := wire.EncodeReceipts(nil); !bytes.Equal(b, digits("c0")) || e != api.OK {
		t.Errorf("EncodeReceipts(nothing) = %x, %d", b, e)
	}
	for text, want := range map[string]api.Errno{"c0": api.OK, "80": api.ErrRlpKind, "c180": api.ErrTxForm, "c281c0": api.ErrTxForm, "": api.ErrRlpEnd} {
		wantDecode(t, txs(), "an example", digits(text), want)
		if want == api.ErrTxForm {
			want = api.ErrRcType
		}
		wantDecode(t, receipts(), "an example", digits(text), want)
	}
}

// P25.2: a list of each type, byte by byte: of type 0 an item of its own, each other one a text.
func TestListBytes(t *testing.T) {
	l := []api.Tx{{Gas: 21000, V: api.U256{27}, R: api.U256{1}, S: api.U256{2}}, {Type: 1, Chain: 1, Create: true}, {Type: 2, Chain: 1, Create: true}}
	want := digits("f83d df80808252089400000000000000000000000000000000000000008080 1b0102 8d 01cb01808080808080c0808080 8e 02cc0180808080808080c0808080")
	if b, e := wire.EncodeTxs(l); !bytes.Equal(b, want) || e != api.OK {
		t.Errorf("EncodeTxs = %x, %d, want %x", b, e, want)
	}
	if m, e := wire.DecodeTxs(want); !same(m, l) || e != api.OK {
		t.Errorf("DecodeTxs = %+v, %d", m, e)
	}
	r := []api.Receipt{{Status: 1, Used: 21000}, {Type: 1, Used: 0x80}}
	want = slices.Concat(digits("f90217 f90108 01 825208 b90100"), make([]byte, 256), digits("c0 b9010b 01 f90107 80 8180 b90100"), make([]byte, 256), digits("c0"))
	want = slices.Concat(modelHead(0xc0, len(want)-3), want[3:])
	if b, e := wire.EncodeReceipts(r); !bytes.Equal(b, want) || e != api.OK {
		t.Errorf("EncodeReceipts = %x, %d, want %x", b, e, want)
	}
	if m, e := wire.DecodeReceipts(want); !same(m, r) || e != api.OK {
		t.Errorf("DecodeReceipts = %+v, %d", m, e)
	}
}

// P25.2: the four receipts of a test of go-ethereum, as they stand in a list of a message. The bytes were written down from memory; the lengths ahead of them would show a slip.
func TestKnownReceipts(t *testing.T) {
	message := digits("f9043e")
	for _, head := range []string{"b9010c 01f90108018262d4b90100", "b9010c 01f901080182cd14b90100", "b9010d 01f901090183013754b90100", "b9010d 01f90109018301a194b90100"} {
		message = slices.Concat(message, digits(head), make([]byte, 256), digits("c0"))
	}
	want := []api.Receipt{{Type: 1, Status: 1, Used: 25300}, {Type: 1, Status: 1, Used: 52500}, {Type: 1, Status: 1, Used: 79700}, {Type: 1, Status: 1, Used: 106900}}
	if l, e := wire.DecodeReceipts(message); !same(l, want) || e != api.OK {
		t.Errorf("DecodeReceipts = %+v, %d", l, e)
	}
	checkDecode(t, receipts(), message)
}

// P25.2: a list of transactions is the one that stands in a block's body.
func TestBody(t *testing.T) {
	row := chance.Row(2530)
	for n := range 200 {
		b := anyBlock(&row, n%tails)
		whole, _ := block.Encode(b)
		parts, e := rlp.Parts(whole)
		if e != api.OK {
			t.Fatal(e)
		}
		if l, e := wire.DecodeTxs(parts[1]); !same(l, b.Txs) || e != api.OK {
			t.Errorf("DecodeTxs of a body: %+v, %d", l, e)
		}
		if body, e := wire.EncodeTxs(b.Txs); !bytes.Equal(body, parts[1]) || e != api.OK {
			t.Errorf("EncodeTxs = %x, %d, want %x", body, e, parts[1])
		}
	}
}

func tryThereAndBack[T any](t *testing.T, p paper[T]) {
	row := chance.Row(2531)
	seen := map[string]bool{}
	for n := range 800 {
		l := several(&row, 1+n%7, func(row *chance.Row) T { return p.any(row, row.Below(kinds)) })
		wantEncode(t, p, "by chance", l, api.OK)
		b, _ := p.modelEncode(l)
		wantDecode(t, p, "by chance", b, api.OK)
		checkDecode(t, p, spoilt(&row, b))
		seen[string(b)] = true
	}
	if len(seen) < 500 {
		t.Errorf("only %d lists", len(seen))
	}
	for n := range kinds {
		x, y := p.plain(n), p.any(&row, (n+1)%kinds)
		for _, l := range [][]T{{x}, {x, x}, {x, y}, {y, x}, slices.Repeat([]T{y, x}, 150)} {
			wantEncode(t, p, "of a type", l, api.OK)
		}
	}
}

// P25.2, P25.3, P0.8, P0.9: lists of all lengths and types there and back, and bytes a step away from them.
func TestThereAndBack(t *testing.T) {
	t.Run("txs", func(t *testing.T) { tryThereAndBack(t, txs()) })
	t.Run("receipts", func(t *testing.T) { tryThereAndBack(t, receipts()) })
}

// decodeError tells what the layer below finds wrong in bytes.
func (p paper[T]) decodeError(b []byte) api.Errno {
	_, e := p.decode(b)
	return e
}

func tryItems[T any](t *testing.T, p paper[T]) {
	ahead, _ := p.encode(p.plain(1))
	for first := range 256 {
		for _, rest := range [][]byte{nil, {0xc0}, {0x80}, {0}, make([]byte, 60)} {
			data := append([]byte{byte(first)}, rest...)
			_, want := p.decode(data)
			if first >= 0xc0 {
				want = p.none
			}
			wantDecode(t, p, "a text", modelBytes(list(text(data...))), want)
			wantDecode(t, p, "a text behind a right one", modelBytes(list(text(ahead...), text(data...))), want)
		}
	}
	wantDecode(t, p, "no bytes", modelBytes(list(text())), p.none)
	wantDecode(t, p, "no bytes, behind a right one", modelBytes(list(text(ahead...), text(), list())), p.none)
	for kind := range kinds {
		envelope, _ := p.encode(p.plain(kind))
		own, _ := rlp.Decode(envelope[min(kind, 1):])
		fields, deeper, held := p.decodeError(envelope[min(kind, 1):]), p.decodeError(modelBytes(list(own))), p.decodeError(modelBytes(list(text(envelope...))))
		for _, c := range []struct {
			it    api.Item
			old   api.Errno // with the type 0
			typed api.Errno // with another one
		}{
			{text(envelope...), p.none, api.OK}, {text(append(envelope, 0)...), p.none, api.ErrRlpRest}, {text(envelope[:len(envelope)-1]...), p.none, api.ErrRlpEnd},
			{own, api.OK, fields}, {list(own), deeper, deeper}, {list(text(envelope...)), held, held},
		} {
			want := c.typed
			if kind == 0 {
				want = c.old
			}
			wantDecode(t, p, "an item", modelBytes(list(c.it)), want)
			wantDecode(t, p, "an item behind a right one", modelBytes(list(text(ahead...), c.it)), want)
		}
	}
}

// P25.2: every byte with which a text can begin, and envelopes as texts, as lists, too short and too long.
func TestItems(t *testing.T) {
	t.Run("txs", func(t *testing.T) { tryItems(t, txs()) })
	t.Run("receipts", func(t *testing.T) { tryItems(t, receipts()) })
}

func tryEachChange[T any](t *testing.T, p paper[T]) {
	row := chance.Row(2532)
	for _, l := range [][]T{{}, {p.plain(0), p.plain(2)}, {p.any(&row, 4), p.any(&row, 0)}} {
		b, _ := p.modelEncode(l)
		tree, _ := rlp.Decode(b)
		eachChange(tree, func(it api.Item) { checkDecode(t, p, modelBytes(it)) })
		for i := range b {
			for _, by := range []byte{1, 0x80, 0xff} {
				other := slices.Clone(b)
				other[i] ^= by
				checkDecode(t, p, other)
			}
			checkDecode(t, p, b[:i])
		}
	}
}

// P25.2, P25.3, P0.9: every step away from right lists: each item in each place, each byte.
func TestEachChange(t *testing.T) {
	t.Run("txs", func(t *testing.T) { tryEachChange(t, txs()) })
	t.Run("receipts", func(t *testing.T) { tryEachChange(t, receipts()) })
}

func tryNoList[T any](t *testing.T, p paper[T]) {
	for text, want := range map[string]api.Errno{
		"81": api.ErrRlpEnd, "8105": api.ErrRlpByte, "c000": api.ErrRlpRest, "f800": api.ErrRlpSize, "f801c0": api.ErrRlpSize, "c3c0c0": api.ErrRlpEnd, "c28105": api.ErrRlpByte, "c28180": p.decodeError(digits("80")), "ffffffffffffffffff": api.ErrRlpEnd,
		"05": api.ErrRlpKind, "83c0c0c0": api.ErrRlpKind, "00": api.ErrRlpKind, "8000": api.ErrRlpRest, "c18100": api.ErrRlpEnd, "c4c180c181": api.ErrRlpEnd,
	} {
		wantDecode(t, p, text, digits(text), want)
	}
	for kind := range kinds {
		b, _ := p.encode(p.plain(kind))
		if kind > 0 {
			wantDecode(t, p, "an envelope alone", b, api.ErrRlpRest)
			wantDecode(t, p, "a text alone", modelBytes(text(b...)), api.ErrRlpKind)
		} else if e := checkDecode(t, p, b); e == api.OK {
			t.Error("an envelope of type 0 alone")
		}
	}
	inner := digits("c0")
	for range 1023 { // 1024 lists, one within the other
		inner = slices.Concat(modelHead(0xc0, len(inner)), inner)
	}
	wantDecode(t, p, "1024 lists", inner, p.decodeError(inner[len(modelHead(0xc0, len(inner)-3)):]))
	wantDecode(t, p, "1025 lists", slices.Concat(modelHead(0xc0, len(inner)), inner), api.ErrRlpDeep)
	wantDecode(t, p, "1025 lists behind an item that is none", slices.Concat(modelHead(0xc0, len(inner)+1), []byte{0x80}, inner), api.ErrRlpDeep)
}

// P25.2: what is no item, or no list: that counts ahead of what stands in it.
func TestNoList(t *testing.T) {
	t.Run("txs", func(t *testing.T) { tryNoList(t, txs()) })
	t.Run("receipts", func(t *testing.T) { tryNoList(t, receipts()) })
}

func tryFirstWrong[T any](t *testing.T, p paper[T]) {
	for _, x := range p.wrongs {
		_, want := p.encode(x)
		for _, y := range append(p.wrongs, p.plain(1)) {
			for _, l := range [][]T{{x}, {x, y}, {p.plain(0), x, y}, {p.plain(2), p.plain(3), p.plain(4), x, p.plain(0), y}} {
				wantEncode(t, p, "a wrong one", l, want)
			}
		}
	}
	var wrongs []api.Item
	for _, s := range []string{"80", "81c0", "05", "8180", "c0", "01", "02"} {
		it, _ := rlp.Decode(digits(s))
		wrongs = append(wrongs, it)
	}
	right, _ := p.encode(p.plain(3))
	for _, a := range wrongs {
		want := checkDecode(t, p, modelBytes(list(a)))
		for _, b := range append(wrongs, text(right...)) {
			for _, l := range []api.Item{list(a, b), list(text(right...), a, b), list(text(right...), text(right...), a, text(right...), b)} {
				wantDecode(t, p, "a wrong item", modelBytes(l), want)
			}
		}
		if want == api.OK {
			t.Errorf("%v is not wrong", a)
		}
	}
}

// P25.2: of several wrong things, or items, the first one in order counts.
func TestFirstWrong(t *testing.T) {
	t.Run("txs", func(t *testing.T) { tryFirstWrong(t, txs()) })
	t.Run("receipts", func(t *testing.T) { tryFirstWrong(t, receipts()) })
}

func tryCounts[T any](t *testing.T, p paper[T], fit int) {
	wantEncode(t, p, "as many as fit", slices.Repeat([]T{p.plain(0)}, fit), api.OK)
	for _, n := range []int{maxList, maxList + 1, 2 * maxList} {
		for _, x := range []T{p.plain(0), p.wrongs[0]} {
			wantEncode(t, p, "too many", slices.Repeat([]T{x}, n), api.ErrBkCount)
		}
	}
	wantEncode(t, p, "65535, the last one wrong", append(slices.Repeat([]T{p.plain(0)}, maxList-2), p.wrongs[0]), checkEncode(t, p, p.wrongs[:1]))
	for _, it := range []string{"80", "05", "c0"} {
		one := digits(it)
		few, many := bytes.Repeat(one, maxList-1), bytes.Repeat(one, maxList)
		wantDecode(t, p, "65535 wrong items", slices.Concat(modelHead(0xc0, len(few)), few), checkDecode(t, p, append([]byte{0xc1}, one...)))
		wantDecode(t, p, "65536 items", slices.Concat(modelHead(0xc0, len(many)), many), api.ErrBkCount)
		wantDecode(t, p, "65536 items and bytes behind them", append(slices.Concat(modelHead(0xc0, len(many)), many), 0), api.ErrRlpRest)
	}
}

// P25.2, P25.3: one fewer than MaxList are written and read (of receipts as many as MaxInput bytes hold), MaxList and more are not: that counts ahead of what they are.
func TestCounts(t *testing.T) {
	t.Run("txs", func(t *testing.T) { tryCounts(t, txs(), maxList-1) })
	t.Run("receipts", func(t *testing.T) { tryCounts(t, receipts(), (maxInput-4)/265) })
	wantEncode(t, receipts(), "65535 receipts", make([]api.Receipt, maxList-1), api.ErrLong)
}

// listSize tells how many bytes the list of well-formed things has.
func (p paper[T]) listSize(l []T) int {
	held := 0
	for _, x := range l {
		b, _ := p.encode(x)
		held += len(b)
		if p.kind(x) > 0 {
			held += len(modelHead(0x80, len(b)))
		}
	}
	return len(modelHead(0xc0, held)) + held
}

func tryLong[T any](t *testing.T, p paper[T]) {
	others := []T{p.plain(1), p.plain(0), p.plain(4)}
	for _, kind := range []int{0, 2} {
		size := func(x T) int { return p.listSize(append([]T{x}, others...)) }
		fit, long := stretched(t, p, kind, maxInput, size), stretched(t, p, kind, maxInput+1, size)
		for i := range others {
			l := slices.Insert(slices.Clone(others), i, fit)
			wantEncode(t, p, "MaxInput bytes", l, api.OK)
			l[i] = long
			wantEncode(t, p, "a byte more", l, api.ErrLong)
			x := p.wrongs[i]
			wantEncode(t, p, "a byte more, and a wrong one behind", append(l, x), checkEncode(t, p, []T{x}))
		}
		x, b := fits(t, p, kind)
		wantEncode(t, p, "an envelope of MaxInput bytes", []T{x}, api.ErrLong)
		wantEncode(t, p, "ten of them", slices.Repeat([]T{x}, 10), api.ErrLong)
		wantEncode(t, p, "three of them and a wrong one", append(slices.Repeat([]T{x}, 3), p.wrongs[0]), checkEncode(t, p, p.wrongs[:1]))
		wantDecode(t, p, "a list of it", slices.Concat(modelHead(0xc0, len(b)), b), api.ErrLong)
	}
	for _, first := range []byte{0, 0x80, 0xc0, 0xfa, 0xff} {
		b := make([]byte, maxInput+1)
		b[0] = first
		wantDecode(t, p, "a byte more than MaxInput", b, api.ErrLong)
	}
}

// P25.2, P25.3, P0.7: a list of just MaxInput bytes, and of one more; what is wrong in a thing counts ahead of the length.
func TestLongLists(t *testing.T) {
	t.Run("txs", func(t *testing.T) { tryLong(t, txs()) })
	t.Run("receipts", func(t *testing.T) { tryLong(t, receipts()) })
}
