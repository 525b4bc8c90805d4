package rlp_test

import (
	"bytes"
	"encoding/binary"
	"math/big"
	"testing"

	"waybill/api"
	"waybill/chance"
	"waybill/rlp"
	"waybill/u256"
)

// numbers are those at the edges of bytes and of 64 bits, and some by chance.
func numbers() []api.U256 {
	row := chance.Row(706)
	all := []api.U256{{}, {15}, {1024}}
	for bit := range 256 {
		power := new(big.Int).Lsh(big.NewInt(1), uint(bit))
		all = append(all, narrow(power), narrow(new(big.Int).Sub(power, big.NewInt(1))))
	}
	all = append(all, api.U256{1<<64 - 1, 1<<64 - 1, 1<<64 - 1, 1<<64 - 1})
	for range 200 {
		all = append(all, row.Number())
	}
	return all
}

// modelNumber tells a number's bytes, without zero bytes ahead.
func modelNumber(v api.U256) []byte {
	var b []byte
	for i := range v {
		b = binary.BigEndian.AppendUint64(b, v[len(v)-1-i])
	}
	return bytes.TrimLeft(b, "\x00")
}

// P7.8: texts, numbers and lists; odd items stay as they are.
func TestMaking(t *testing.T) {
	for _, n := range edges() {
		if it := rlp.Text(filled(n)); !same(it, api.Item{Data: filled(n)}) {
			t.Errorf("Text of %d bytes", n)
		}
	}
	if !same(rlp.Text(nil), text("")) || !same(rlp.Text([]byte{0, 0}), text("\x00\x00")) {
		t.Error("Text of nothing, or of zeros")
	}
	for _, v := range numbers() {
		want := api.Item{Data: modelNumber(v)}
		if it := rlp.Number(v); !same(it, want) {
			t.Errorf("Number(%v) = %v", v, it)
		}
		if it := rlp.Small(v[0]); !same(it, api.Item{Data: modelNumber(api.U256{v[0]})}) {
			t.Errorf("Small(%d) = %v", v[0], it)
		}
	}
	if !same(rlp.List(), list()) || !same(rlp.List(nil...), list()) || !same(rlp.List(text("a")), list(text("a"))) {
		t.Error("List of nothing, or of one")
	}
	items := []api.Item{text("a"), oddText(), list(), oddList(), nest(2000, oddText()), {Data: []byte{}}, text("")}
	if it := rlp.List(items...); !same(it, list(items...)) {
		t.Errorf("List of odd items = %v", it)
	}
	row := chance.Row(707)
	for range 300 {
		it := anyTree(&row, 4)
		oddify(&row, &it)
		if got := rlp.List(it, it, text("b")); !same(got, list(it, it, text("b"))) {
			t.Errorf("List = %v", got)
		}
	}
}

// got is what the five functions answer of one item.
type got struct {
	text, fixed            []byte
	number                 api.U256
	small                  uint64
	items                  []api.Item
	eText, eFixed, eNumber api.Errno
	eSmall, eList          api.Errno
}

func getAll(it api.Item, n int) got {
	var g got
	g.text, g.eText = rlp.GetText(it)
	g.fixed, g.eFixed = rlp.GetFixed(it, n)
	g.number, g.eNumber = rlp.GetNumber(it)
	g.small, g.eSmall = rlp.GetSmall(it)
	g.items, g.eList = rlp.GetList(it)
	return g
}

// modelAll follows P7.9 word for word.
func modelAll(it api.Item, n int) got {
	var g got
	if !it.List && len(it.Items) > 0 || it.List && len(it.Data) > 0 {
		e := api.ErrRlpItem
		g.eText, g.eFixed, g.eNumber, g.eSmall, g.eList = e, e, e, e, e
	} else if it.List {
		e := api.ErrRlpKind
		g.eText, g.eFixed, g.eNumber, g.eSmall = e, e, e, e
		g.items = it.Items
	} else {
		g.eList = api.ErrRlpKind
		g.text = it.Data
		if g.fixed = it.Data; len(it.Data) != n {
			g.fixed, g.eFixed = nil, api.ErrRlpWide
		}
		number, e := modelGetNumber(it.Data, 32)
		g.number, g.eNumber = narrow(number), e
		number, e = modelGetNumber(it.Data, 8)
		g.small, g.eSmall = number.Uint64(), e
	}
	if n < 0 {
		g.fixed, g.eFixed = nil, api.ErrArg
	}
	return g
}

func modelGetNumber(b []byte, most int) (*big.Int, api.Errno) {
	if len(b) > most {
		return new(big.Int), api.ErrRlpWide
	}
	if len(b) > 0 && b[0] == 0 {
		return new(big.Int), api.ErrRlpZero
	}
	return new(big.Int).SetBytes(b), api.OK
}

// checkGet holds all five functions against the model.
func checkGet(t *testing.T, it api.Item, n int) {
	t.Helper()
	g, want := getAll(it, n), modelAll(it, n)
	if !bytes.Equal(g.text, want.text) || g.eText != want.eText {
		t.Errorf("GetText(%.60v) = % x, %d, want %d", it, short(g.text), g.eText, want.eText)
	}
	if !bytes.Equal(g.fixed, want.fixed) || g.eFixed != want.eFixed {
		t.Errorf("GetFixed(%.60v, %d) = % x, %d, want %d", it, n, short(g.fixed), g.eFixed, want.eFixed)
	}
	if g.number != want.number || g.eNumber != want.eNumber {
		t.Errorf("GetNumber(%.60v) = %v, %d, want %v, %d", it, g.number, g.eNumber, want.number, want.eNumber)
	}
	if g.small != want.small || g.eSmall != want.eSmall {
		t.Errorf("GetSmall(%.60v) = %d, %d, want %d, %d", it, g.small, g.eSmall, want.small, want.eSmall)
	}
	if !sameItems(g.items, want.items) || g.eList != want.eList {
		t.Errorf("GetList(%.60v) = %v, %d, want %v, %d", it, g.items, g.eList, want.items, want.eList)
	}
}

// P7.9: the example 6.
func TestGetExamples(t *testing.T) {
	if v, e := rlp.GetNumber(text("\x00")); e != api.ErrRlpZero || v != (api.U256{}) {
		t.Errorf("GetNumber of 00: %v, %d", v, e)
	}
	if v, e := rlp.GetNumber(api.Item{Data: make([]byte, 33)}); e != api.ErrRlpWide || v != (api.U256{}) {
		t.Errorf("GetNumber of 33 bytes: %v, %d", v, e)
	}
	if v, e := rlp.GetNumber(list()); e != api.ErrRlpKind || v != (api.U256{}) {
		t.Errorf("GetNumber of a list: %v, %d", v, e)
	}
	if v, e := rlp.GetSmall(text("123456789")); e != api.ErrRlpWide || v != 0 {
		t.Errorf("GetSmall of nine bytes: %d, %d", v, e)
	}
	if b, e := rlp.GetFixed(text("abc"), 4); e != api.ErrRlpWide || len(b) != 0 {
		t.Errorf("GetFixed of three bytes with n 4: %x, %d", b, e)
	}
	if b, e := rlp.GetFixed(text("abc"), -1); e != api.ErrArg || len(b) != 0 {
		t.Errorf("GetFixed with n -1: %x, %d", b, e)
	}
}

// P7.9: texts of all widths, with zero bytes ahead and without.
func TestGetTexts(t *testing.T) {
	row := chance.Row(708)
	for width := range 70 {
		b := row.Text(width)
		for _, first := range []byte{0, 1, 0x7f, 0x80, 0xff} {
			if width > 0 {
				b[0] = first
			}
			for _, n := range []int{width, width - 1, width + 1, 0, -1, 1 << 40, -1 << 63, 1<<63 - 1} {
				checkGet(t, api.Item{Data: b}, n)
			}
		}
		checkGet(t, api.Item{Data: make([]byte, width)}, width)
	}
	checkGet(t, api.Item{Data: filled(api.MaxInput + 1)}, api.MaxInput+1)
	checkGet(t, api.Item{}, 0)
	checkGet(t, api.Item{Data: []byte{}, Items: []api.Item{}}, 0)
}

// P7.9: numbers come back as they were made.
func TestGetNumbers(t *testing.T) {
	for _, v := range numbers() {
		if got, e := rlp.GetNumber(rlp.Number(v)); got != v || e != api.OK {
			t.Errorf("GetNumber(Number(%v)) = %v, %d", v, got, e)
		}
		if got, e := rlp.GetSmall(rlp.Small(v[0])); got != v[0] || e != api.OK {
			t.Errorf("GetSmall(Small(%d)) = %d, %d", v[0], got, e)
		}
		small, e := rlp.GetSmall(rlp.Number(v))
		if want, wantE := u256.Small(v); wantE == api.OK && (small != want || e != api.OK) || wantE != api.OK && (small != 0 || e != api.ErrRlpWide) {
			t.Errorf("GetSmall(Number(%v)) = %d, %d", v, small, e)
		}
		zeroAhead := api.Item{Data: append([]byte{0}, modelNumber(v)...)}
		checkGet(t, zeroAhead, 0)
	}
}

// P7.9: lists, and odd items; what a list holds is not looked at, but handed out as it is.
func TestGetLists(t *testing.T) {
	items := []api.Item{
		list(), list(text("a")), list(text("a"), list(), text("")), list(oddText(), oddList()), nest(2000, oddList()), nest(1, text("")),
		oddText(), oddList(), {Items: []api.Item{{}}}, {List: true, Data: []byte{0}}, {Items: []api.Item{oddList()}}, {List: true, Data: make([]byte, 33), Items: []api.Item{{}}}, {Data: make([]byte, 33), Items: []api.Item{{}}},
		{List: true, Data: []byte{}, Items: []api.Item{}}, {List: true, Items: []api.Item{{List: true, Data: []byte{}}}},
	}
	for _, it := range items {
		for _, n := range []int{-1, 0, 1, 33, -1 << 63} {
			checkGet(t, it, n)
		}
	}
	row := chance.Row(709)
	for range 1000 {
		it := anyTree(&row, 3)
		oddify(&row, &it)
		checkGet(t, it, row.Below(60)-2)
	}
}
