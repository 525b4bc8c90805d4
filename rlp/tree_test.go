package rlp_test

import (
	"bytes"
	"encoding/hex"
	"math/big"
	"slices"
	"strings"
	"testing"

	"waybill/api"
	"waybill/chance"
	"waybill/rlp"
	"waybill/u256"
)

// checkWritten holds Check, Size and Encode against what is wanted.
func checkWritten(t *testing.T, it api.Item, want []byte, wantE api.Errno) {
	t.Helper()
	if e := rlp.Check(it); e != wantE {
		t.Errorf("Check of what begins with % x: %d, want %d", short(want), e, wantE)
	}
	if n, e := rlp.Size(it); n != len(want) || e != wantE {
		t.Errorf("Size of what begins with % x: %d, %d, want %d, %d", short(want), n, e, len(want), wantE)
	}
	if b, e := rlp.Encode(it); !bytes.Equal(b, want) || e != wantE {
		t.Errorf("Encode: % x, %d, want % x, %d", short(b), e, short(want), wantE)
	}
}

// known are trees and their bytes, of the chapter's examples 1 and 2 and from elsewhere.
func known() map[string]api.Item {
	lorem := "Lorem ipsum dolor sit amet, consectetur adipisicing elit"
	large, _ := new(big.Int).SetString("83729609699884896815286331701780722", 10)
	larger, _ := new(big.Int).SetString("105315505618206987246253880190783558935785933862974822347068935681", 10)
	pair := func(n string) api.Item { return list(text("key"+n), text("val"+n)) }
	return map[string]api.Item{
		"83 64 6f 67":                       text("dog"),
		"80":                                text(""),
		"00":                                text("\x00"),
		"7f":                                text("\x7f"),
		"81 80":                             text("\x80"),
		"81 ff":                             text("\xff"),
		"c0":                                list(),
		"c1 80":                             list(text("")),
		"c1 7f":                             list(text("\x7f")),
		"c2 81 80":                          list(text("\x80")),
		"c8 83 63 61 74 83 64 6f 67":        list(text("cat"), text("dog")),
		"b8 38" + strings.Repeat("61", 56):  text(strings.Repeat("a", 56)),
		"b7" + strings.Repeat("61", 55):     text(strings.Repeat("a", 55)),
		"c7 c0 c1 c0 c3 c0 c1 c0":           list(list(), list(list()), list(list(), list(list()))),
		"0f":                                rlp.Number(u256.From(15)),
		"82 04 00":                          rlp.Number(u256.From(1024)),
		"10":                                rlp.Small(16),
		"81 81":                             rlp.Small(129),
		"82 03 e8":                          rlp.Small(1000),
		"83 01 86 a0":                       rlp.Small(100000),
		"8f 102030405060708090a0b0c0d0e0f2": rlp.Number(narrow(large)),
		"c6 82 7a 77 c1 04 01":              list(text("zw"), list(rlp.Small(4)), rlp.Small(1)),
		"b8 38" + hex.EncodeToString([]byte(lorem)):                                                      text(lorem),
		"f7 b6" + strings.Repeat("61", 54):                                                               list(text(strings.Repeat("a", 54))),
		"f8 38 b7" + strings.Repeat("61", 55):                                                            list(text(strings.Repeat("a", 55))),
		"9c 0100020003000400050006000700080009000a000b000c000d000e01":                                    rlp.Number(narrow(larger)),
		"ec ca846b6579318476616c31 ca846b6579328476616c32 ca846b6579338476616c33 ca846b6579348476616c34": list(pair("1"), pair("2"), pair("3"), pair("4")),
		"a0" + strings.Repeat("ff", 32):                                                                  rlp.Number(api.U256{1<<64 - 1, 1<<64 - 1, 1<<64 - 1, 1<<64 - 1}),
		"b9 01 00" + strings.Repeat("00", 256):                                                           text(strings.Repeat("\x00", 256)),
		"ba 01 00 00" + strings.Repeat("00", 65536):                                                      text(strings.Repeat("\x00", 65536)),
		"f9 01 00" + strings.Repeat("80", 256):                                                           list(slices.Repeat([]api.Item{text("")}, 256)...),
		"c4 c3 c2 c1 80":                                                                                 nest(4, text("")),
	}
}

// P7.2, P7.3: known trees, both ways; the examples 1 and 2.
func TestKnown(t *testing.T) {
	for digitsOf, it := range known() {
		b := digits(digitsOf)
		checkWritten(t, it, b, api.OK)
		if got, e := rlp.Decode(b); !same(got, it) || e != api.OK {
			t.Errorf("Decode(% x) = %v, %d", short(b), got, e)
		}
	}
	if b, e := rlp.Encode(rlp.Number(api.U256{})); !bytes.Equal(b, []byte{0x80}) || e != api.OK {
		t.Errorf("Encode(Number(0)) = % x, %d", b, e)
	}
}

// P7.2: texts and lists of the lengths at which heads change.
func TestEdges(t *testing.T) {
	for _, n := range edges() {
		it := api.Item{Data: filled(n)}
		checkWritten(t, it, slices.Concat(modelHead(0x80, n), filled(n)), api.OK)
		it = list(slices.Repeat([]api.Item{text("")}, n)...)
		checkWritten(t, it, slices.Concat(modelHead(0xc0, n), bytes.Repeat([]byte{0x80}, n)), api.OK)
		it = list(slices.Repeat([]api.Item{list()}, n)...)
		checkWritten(t, it, slices.Concat(modelHead(0xc0, n), bytes.Repeat([]byte{0xc0}, n)), api.OK)
	}
	for b := range 256 {
		want := []byte{byte(b)}
		if b >= 0x80 {
			want = []byte{0x81, byte(b)}
		}
		checkWritten(t, api.Item{Data: []byte{byte(b)}}, want, api.OK)
	}
}

// P7.1, P7.2, P7.4: trees by chance.
func TestTrees(t *testing.T) {
	row := chance.Row(700)
	for range 2000 {
		it := anyTree(&row, 5)
		b := modelBytes(it)
		checkWritten(t, it, b, api.OK)
		if again, e := rlp.Decode(b); !same(again, it) || e != api.OK {
			t.Errorf("Decode(% x): %d, or not the item that it was", short(b), e)
		}
	}
}

// P0.4: nil and empty are the same, also where they would make an item odd.
func TestNil(t *testing.T) {
	checkWritten(t, api.Item{Data: []byte{}, Items: []api.Item{}}, []byte{0x80}, api.OK)
	checkWritten(t, api.Item{List: true, Data: []byte{}, Items: []api.Item{}}, []byte{0xc0}, api.OK)
	checkWritten(t, list(api.Item{List: true, Data: []byte{}}, api.Item{Items: []api.Item{}}), []byte{0xc2, 0xc0, 0x80}, api.OK)
}

// P7.1: odd items, at the top and deep inside; the example 4.
func TestOdd(t *testing.T) {
	odd := []api.Item{
		oddText(), oddList(), {Items: []api.Item{{}}}, {List: true, Data: []byte{0}}, {Data: []byte("a"), Items: []api.Item{{}, {}}}, {List: true, Data: []byte("abc"), Items: []api.Item{{}}},
	}
	for _, it := range odd {
		checkWritten(t, it, nil, api.ErrRlpItem)
		for _, depth := range []int{1, 2, 10, 1023, 1024, 1025, 3000} {
			checkWritten(t, nest(depth, it), nil, api.ErrRlpItem)
		}
		checkWritten(t, list(it, text("a"), list()), nil, api.ErrRlpItem)
		checkWritten(t, list(text("a"), it, list()), nil, api.ErrRlpItem)
		checkWritten(t, list(text("a"), list(), it), nil, api.ErrRlpItem)
		checkWritten(t, list(list(text("a"), list(text("b"), it))), nil, api.ErrRlpItem)
	}
}

// P7.1: a depth of 1024 is taken, one more is not; the example 4.
func TestDeep(t *testing.T) {
	for _, c := range []struct {
		it   api.Item
		want api.Errno
	}{
		{nest(1023, list()), api.OK}, {nest(1024, list()), api.ErrRlpDeep},
		{nest(1024, text("a")), api.OK}, {nest(1025, text("a")), api.ErrRlpDeep},
		{list(text("a"), nest(1022, list()), text("b")), api.OK}, {list(text("a"), nest(1023, list()), text("b")), api.ErrRlpDeep},
		{list(nest(1023, list()), list()), api.ErrRlpDeep}, {list(list(), nest(1023, list())), api.ErrRlpDeep},
		{list(nest(1022, list()), nest(1022, list())), api.OK}, {nest(5000, list()), api.ErrRlpDeep}, {nest(60000, list()), api.ErrRlpDeep},
	} {
		var want []byte
		if c.want == api.OK {
			want = modelBytes(c.it)
		}
		checkWritten(t, c.it, want, c.want)
	}
}

// P7.1, P0.7: MaxInput bytes are taken, one more is not.
func TestLong(t *testing.T) {
	most := filled(api.MaxInput - 4)
	checkWritten(t, api.Item{Data: most}, slices.Concat([]byte{0xba, 0xff, 0xff, 0xfc}, most), api.OK)
	checkWritten(t, api.Item{Data: filled(api.MaxInput - 3)}, nil, api.ErrLong)
	checkWritten(t, api.Item{Data: filled(api.MaxInput)}, nil, api.ErrLong)
	checkWritten(t, api.Item{Data: filled(api.MaxInput + 1)}, nil, api.ErrLong)

	inner := api.Item{Data: most[:api.MaxInput-8]}
	whole := slices.Concat([]byte{0xfa, 0xff, 0xff, 0xfc, 0xba, 0xff, 0xff, 0xf8}, inner.Data)
	checkWritten(t, list(inner), whole, api.OK)
	checkWritten(t, list(inner, text("")), nil, api.ErrLong)
	checkWritten(t, list(text("a"), inner), nil, api.ErrLong)
	checkWritten(t, list(list(inner)), nil, api.ErrLong)
	checkWritten(t, list(api.Item{Data: most}), nil, api.ErrLong)

	half := api.Item{Data: most[:api.MaxInput/2-6]} // with its head of 4 bytes, two of them and the list's head fill the room
	if n, e := rlp.Size(list(half, half)); n != api.MaxInput || e != api.OK {
		t.Errorf("Size of two halves: %d, %d", n, e)
	}
	checkWritten(t, list(half, half, text("")), nil, api.ErrLong)
	checkWritten(t, list(half, half, half), nil, api.ErrLong)
}

// P7.1: which error comes first.
func TestFirstError(t *testing.T) {
	long := api.Item{Data: filled(api.MaxInput)}
	deep := nest(1024, list())
	longAndDeep := nest(1025, long)
	for _, c := range []struct {
		it   api.Item
		want api.Errno
	}{
		{list(long, deep), api.ErrRlpDeep}, {list(deep, long), api.ErrRlpDeep}, {longAndDeep, api.ErrRlpDeep}, {nest(1024, long), api.ErrLong},
		{list(long, oddText()), api.ErrRlpItem}, {list(oddList(), long), api.ErrRlpItem}, {list(deep, oddText()), api.ErrRlpItem}, {list(oddText(), deep), api.ErrRlpItem},
		{list(long, deep, oddList()), api.ErrRlpItem}, {list(oddList(), deep, long), api.ErrRlpItem}, {nest(2000, list(long, oddText())), api.ErrRlpItem},
		{api.Item{List: true, Data: long.Data, Items: []api.Item{deep}}, api.ErrRlpItem}, {api.Item{Data: long.Data, Items: []api.Item{deep}}, api.ErrRlpItem},
	} {
		checkWritten(t, c.it, nil, c.want)
	}
}

// P7.1, P7.2: trees by chance, some of them odd.
func TestOddTrees(t *testing.T) {
	row := chance.Row(701)
	seen := map[api.Errno]int{}
	for range 2000 {
		it := anyTree(&row, 4)
		oddify(&row, &it)
		want := modelCheck(it)
		seen[want]++
		var b []byte
		if want == api.OK {
			b = modelBytes(it)
		}
		checkWritten(t, it, b, want)
	}
	if seen[api.OK] < 100 || seen[api.ErrRlpItem] < 100 {
		t.Errorf("the trees are too much of one kind: %v", seen)
	}
}

// oddify turns some of a tree's items into the other kind.
func oddify(row *chance.Row, it *api.Item) {
	if row.Below(8) == 0 {
		it.List = !it.List
	}
	for i := range it.Items {
		oddify(row, &it.Items[i])
	}
}
