package rlp_test

import (
	"bytes"
	"encoding/hex"
	"math/big"
	"slices"
	"strings"
	"testing"

	"waybill/api"
	"waybill/chance"
	"waybill/u256"
)

func text(s string) api.Item { return api.Item{Data: []byte(s)} }

func list(items ...api.Item) api.Item { return api.Item{List: true, Items: items} }

// oddText and oddList are the two kinds of odd items.

func oddText() api.Item { return api.Item{Data: []byte("a"), Items: []api.Item{text("b")}} }

func oddList() api.Item { return api.Item{List: true, Data: []byte("a"), Items: []api.Item{text("b")}} }

// nest lays an item into so many lists, one within the other.
func nest(n int, it api.Item) api.Item {
	for range n {
		it = list(it)
	}
	return it
}

// filled tells n bytes that stand for nothing.
func filled(n int) []byte { return bytes.Repeat([]byte{0xaa}, n) }

// digits reads bytes in hexadecimal digits, blanks between them or not.
func digits(s string) []byte {
	b, err := hex.DecodeString(strings.ReplaceAll(s, " ", ""))
	if err != nil {
		panic("not digits: " + s)
	}
	return b
}

// short cuts bytes for a message.
func short(b []byte) []byte { return b[:min(len(b), 40)] }

// narrow tells a number of math/big as one of the program.
func narrow(n *big.Int) api.U256 {
	x, e := u256.Get(n.Bytes())
	if e != api.OK || n.Sign() < 0 {
		panic("not below 2^256: " + n.String())
	}
	return x
}

// same tells whether two trees are the same; nil and empty are (P0.4).
func same(a, b api.Item) bool {
	return a.List == b.List && bytes.Equal(a.Data, b.Data) && slices.EqualFunc(a.Items, b.Items, same)
}

func sameItems(a, b []api.Item) bool { return slices.EqualFunc(a, b, same) }

func sameTexts(a, b [][]byte) bool { return slices.EqualFunc(a, b, bytes.Equal) }

// isNothing tells whether an item is the zero value, which stands beside an error (P0.2).
func isNothing(it api.Item) bool { return same(it, api.Item{}) }

// The models follow the chapter's words; they go down by recursion and know lengths as numbers of any size.

func modelHead(first byte, n int) []byte {
	if n <= 55 {
		return []byte{first + byte(n)}
	}
	length := big.NewInt(int64(n)).Bytes()
	return append([]byte{first + 0x37 + byte(len(length))}, length...)
}

func modelBytes(it api.Item) []byte {
	if !it.List {
		if len(it.Data) == 1 && it.Data[0] < 0x80 {
			return []byte{it.Data[0]}
		}
		return append(modelHead(0x80, len(it.Data)), it.Data...)
	}
	var held []byte
	for _, inner := range it.Items {
		held = append(held, modelBytes(inner)...)
	}
	return append(modelHead(0xc0, len(held)), held...)
}

func modelOdd(it api.Item) bool {
	return !it.List && len(it.Items) > 0 || it.List && len(it.Data) > 0 || slices.ContainsFunc(it.Items, modelOdd)
}

func modelDepth(it api.Item) int {
	if !it.List {
		return 0
	}
	deepest := 0
	for _, inner := range it.Items {
		deepest = max(deepest, modelDepth(inner))
	}
	return 1 + deepest
}

func modelCheck(it api.Item) api.Errno {
	if modelOdd(it) {
		return api.ErrRlpItem
	}
	if modelDepth(it) > 1024 {
		return api.ErrRlpDeep
	}
	if len(modelBytes(it)) > 16777216 {
		return api.ErrLong
	}
	return api.OK
}

func modelSplit(room []byte) (isList bool, held, rest []byte, e api.Errno) {
	if len(room) > 16777216 {
		return false, nil, nil, api.ErrLong
	}
	if len(room) == 0 {
		return false, nil, nil, api.ErrRlpEnd
	}
	first, behind := int(room[0]), room[1:]
	length, width := 0, 0
	switch {
	case first < 0x80:
		return false, room[:1], behind, api.OK
	case first <= 0xb7:
		length = first - 0x80
	case first <= 0xbf:
		width = first - 0xb7
	case first <= 0xf7:
		isList, length = true, first-0xc0
	default:
		isList, width = true, first-0xf7
	}
	if len(behind) < width {
		return false, nil, nil, api.ErrRlpEnd
	}
	n := big.NewInt(int64(length))
	if width > 0 {
		n.SetBytes(behind[:width])
		if behind[0] == 0 || n.Cmp(big.NewInt(56)) < 0 {
			return false, nil, nil, api.ErrRlpSize
		}
	}
	behind = behind[width:]
	if n.Cmp(big.NewInt(int64(len(behind)))) > 0 {
		return false, nil, nil, api.ErrRlpEnd
	}
	held, rest = behind[:n.Int64()], behind[n.Int64():]
	if !isList && len(held) == 1 && held[0] < 0x80 {
		return false, nil, nil, api.ErrRlpByte
	}
	return isList, held, rest, api.OK
}

// modelItem reads the item at a room's front, which begins within so many lists, and tells what is left.
func modelItem(room []byte, within int) (api.Item, []byte, api.Errno) {
	isList, held, rest, e := modelSplit(room)
	if e != api.OK {
		return api.Item{}, nil, e
	}
	if !isList {
		return text(string(held)), rest, api.OK
	}
	if within == 1024 {
		return api.Item{}, nil, api.ErrRlpDeep
	}
	it := list()
	for len(held) > 0 {
		var inner api.Item
		if inner, held, e = modelItem(held, within+1); e != api.OK {
			return api.Item{}, nil, e
		}
		it.Items = append(it.Items, inner)
	}
	return it, rest, api.OK
}

func modelDecode(b []byte) (api.Item, api.Errno) {
	it, rest, e := modelItem(b, 0)
	if e != api.OK {
		return api.Item{}, e
	}
	if len(rest) > 0 {
		return api.Item{}, api.ErrRlpRest
	}
	return it, api.OK
}

func modelParts(b []byte) ([][]byte, api.Errno) {
	isList, held, rest, e := modelSplit(b)
	if e != api.OK {
		return nil, e
	}
	if !isList {
		return nil, api.ErrRlpKind
	}
	if len(rest) > 0 {
		return nil, api.ErrRlpRest
	}
	var parts [][]byte
	for len(held) > 0 {
		_, _, left, e := modelSplit(held)
		if e != api.OK {
			return nil, e
		}
		parts = append(parts, held[:len(held)-len(left)])
		held = left
	}
	return parts, api.OK
}

// within lays bytes into so many lists.
func within(n int, b []byte) []byte {
	for range n {
		b = slices.Concat(modelHead(0xc0, len(b)), b)
	}
	return b
}

// edges are the lengths at which heads change.
func edges() []int {
	return []int{0, 1, 2, 54, 55, 56, 57, 254, 255, 256, 257, 65534, 65535, 65536, 65537}
}

// anyText tells one by chance: mostly short, some at an edge.
func anyText(row *chance.Row) []byte {
	switch row.Below(8) {
	case 0:
		return nil
	case 1:
		return []byte{byte(row.Below(256))}
	case 2:
		return []byte{0x7e + byte(row.Below(4))}
	case 3:
		return row.Text(edges()[row.Below(11)])
	}
	return row.Text(row.Below(12))
}

// anyTree tells one by chance, not odd, at most so deep.
func anyTree(row *chance.Row, depth int) api.Item {
	if depth == 0 || row.Below(3) == 0 {
		return api.Item{Data: anyText(row)}
	}
	it := list()
	for range row.Below(6) {
		it.Items = append(it.Items, anyTree(row, depth-1))
	}
	return it
}

// spoilt changes a byte or some of a text, or its length.
func spoilt(row *chance.Row, b []byte) []byte {
	b = slices.Clone(b)
	for range 1 + row.Below(3) {
		at := row.Below(len(b) + 1)
		switch row.Below(5) {
		case 0:
			b = b[:at]
		case 1:
			b = slices.Insert(b, at, tellingBytes()[row.Below(len(tellingBytes()))])
		case 2:
			b = slices.Delete(b, at, min(at+1, len(b)))
		case 3:
			b = slices.Replace(b, at, min(at+1, len(b)), tellingBytes()[row.Below(len(tellingBytes()))])
		default:
			b = slices.Replace(b, at, min(at+1, len(b)), byte(row.Next()))
		}
	}
	return b
}

// tellingBytes are those at which a head's meaning changes, and short lengths.
func tellingBytes() []byte {
	return digits("00 01 02 37 38 7f 80 81 82 83 b7 b8 b9 bf c0 c1 c2 c3 c4 f7 f8 f9 ff")
}

// eachShort hands over all texts of telling bytes of up to so many bytes; they are shared from call to call.
func eachShort(most int, f func(b []byte)) {
	var grow func(b []byte)
	grow = func(b []byte) {
		f(b)
		if len(b) == most {
			return
		}
		for _, next := range tellingBytes() {
			grow(append(b, next))
		}
	}
	grow(make([]byte, 0, most))
}

// The helpers themselves: an error in them would hide one in the program.
func TestHelpers(t *testing.T) {
	if !same(text(""), api.Item{}) || !same(api.Item{List: true}, api.Item{List: true, Data: []byte{}, Items: []api.Item{}}) {
		t.Error("same: nil and empty")
	}
	trees := []api.Item{text(""), text("a"), text("b"), list(), list(list()), list(text("a")), list(text("b")), list(text("a"), text("b")), oddText(), oddList()}
	for i, a := range trees {
		for j, b := range trees {
			if same(a, b) != (i == j) {
				t.Errorf("same(%v, %v)", a, b)
			}
		}
	}
	if modelDepth(nest(7, text(""))) != 7 || modelDepth(nest(7, list())) != 8 || modelDepth(list(list(), text(""), list(list()))) != 3 {
		t.Error("modelDepth")
	}
	for _, c := range []struct {
		it  api.Item
		odd bool
	}{{text("a"), false}, {list(), false}, {oddText(), true}, {oddList(), true}, {nest(3, oddText()), true}, {list(text(""), list(oddList())), true}, {nest(3, text("")), false}} {
		if modelOdd(c.it) != c.odd {
			t.Errorf("modelOdd(%v)", c.it)
		}
	}
	texts := 0
	eachShort(2, func(b []byte) { texts++ })
	if n := len(tellingBytes()); texts != 1+n+n*n {
		t.Error("eachShort")
	}
}
