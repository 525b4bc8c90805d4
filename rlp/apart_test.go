package rlp_test

import (
	"bytes"
	"slices"
	"testing"

	"waybill/api"
	"waybill/chance"
	"waybill/rlp"
)

// texts tells all the texts of a tree, lists those of its items; an odd item's too.

func texts(it api.Item) [][]byte {
	all := [][]byte{it.Data}
	for _, inner := range it.Items {
		all = append(all, texts(inner)...)
	}
	return all
}

func lists(it api.Item) [][]api.Item {
	all := [][]api.Item{it.Items}
	for _, inner := range it.Items {
		all = append(all, lists(inner)...)
	}
	return all
}

// areApart paints each text in a colour of its own, with the room beyond its end, and tells whether each one keeps it.
func areApart(all [][]byte) bool {
	for i, b := range all {
		b = b[:cap(b)]
		for j := range b {
			b[j] = byte(i + i>>8)
		}
	}
	for i, b := range all {
		for _, colour := range b[:cap(b)] {
			if colour != byte(i+i>>8) {
				return false
			}
		}
	}
	return true
}

// areListsApart does the same with lists of items.
func areListsApart(all [][]api.Item) bool {
	for i, items := range all {
		items = items[:cap(items)]
		for j := range items {
			items[j] = rlp.Small(uint64(i))
		}
	}
	for i, items := range all {
		for _, it := range items[:cap(items)] {
			if !same(it, rlp.Small(uint64(i))) {
				return false
			}
		}
	}
	return true
}

// isApart does it with a whole tree; the tree is spoilt then.
func isApart(it api.Item) bool {
	all := lists(it)
	return areApart(texts(it)) && areListsApart(all)
}

// roomyTree tells a tree by chance, now and then odd, whose texts and lists have room beyond their ends, and the same tree in memory of its own.
func roomyTree(row *chance.Row, depth int) (it, twin api.Item) {
	it.List = depth > 0 && row.Below(4) > 0
	twin.List = it.List
	if !it.List || row.Below(10) == 0 {
		it.Data, _ = row.Roomy(row.Below(70))
		twin.Data = slices.Clone(it.Data)
	}
	if it.List || row.Below(20) == 0 {
		n := row.Below(5)
		it.Items, twin.Items = make([]api.Item, n, n+3), make([]api.Item, n)
		for i := range n {
			it.Items[i], twin.Items[i] = roomyTree(row, max(depth-1, 0))
		}
	}
	return it, twin
}

// whole tells a tree with all that stands in the room beyond its lists' ends and its texts' ends, in memory of its own.
func whole(it api.Item) api.Item {
	twin := api.Item{List: it.List, Data: slices.Clone(it.Data[:cap(it.Data)])}
	for _, inner := range it.Items[:cap(it.Items)] {
		twin.Items = append(twin.Items, whole(inner))
	}
	return twin
}

// P7.10, P0.3: Decode's tree is new memory throughout; the text isn't changed, nor kept.
func TestDecodeApart(t *testing.T) {
	row := chance.Row(710)
	for range 500 {
		want := anyTree(&row, 4)
		b, memory := row.Roomy(len(modelBytes(want)))
		copy(b, modelBytes(want))
		before := slices.Clone(memory)
		it, e := rlp.Decode(b)
		again, f := rlp.Decode(b)
		if e != api.OK || f != api.OK || !bytes.Equal(memory, before) {
			t.Fatalf("Decode(% x): %d, %d, or it has changed its text", short(b), e, f)
		}
		if !isApart(it) || !bytes.Equal(memory, before) || !same(again, want) {
			t.Fatalf("Decode(% x): the tree shares memory", short(b))
		}
		clear(memory)
		if !same(again, want) {
			t.Fatal("Decode: the tree changes with the text")
		}
	}
}

// P7.10, P0.3: Encode's bytes are new memory; the item isn't changed, nor kept.
func TestEncodeApart(t *testing.T) {
	row := chance.Row(711)
	for range 500 {
		it, twin := roomyTree(&row, 4)
		before := whole(it)
		b, e := rlp.Encode(it)
		again, _ := rlp.Encode(it)
		if rlp.Check(it) != e || !same(whole(it), before) {
			t.Fatalf("Encode or Check has changed its item: %d", e)
		}
		if e != api.OK {
			continue
		}
		clear(b[:cap(b)])
		if !same(whole(it), before) || !bytes.Equal(again, modelBytes(twin)) {
			t.Fatal("Encode: the bytes share memory")
		}
		isApart(it)
		if !bytes.Equal(again, modelBytes(twin)) {
			t.Fatal("Encode: the bytes change with the item")
		}
	}
}

// P7.10, P0.3: what Split and Parts answer is new memory, each text apart from the others.
func TestPartsApart(t *testing.T) {
	row := chance.Row(712)
	for range 500 {
		tree := modelBytes(list(anyTree(&row, 3), anyTree(&row, 3), anyTree(&row, 1)))
		b, memory := row.Roomy(len(tree))
		copy(b, tree)
		before := slices.Clone(memory)
		_, wantHeld, wantRest, _ := modelSplit(slices.Clone(memory))
		wantParts, _ := modelParts(slices.Clone(b))

		_, held, rest, e := rlp.Split(memory)
		_, held2, rest2, f := rlp.Split(memory)
		parts, g := rlp.Parts(b)
		parts2, h := rlp.Parts(b)
		if e != api.OK || f != api.OK || g != api.OK || h != api.OK || !bytes.Equal(memory, before) {
			t.Fatalf("Split, Parts of % x: %d, %d, %d, %d, or the text has changed", short(b), e, f, g, h)
		}
		if !areApart(slices.Concat(parts, [][]byte{held, rest})) || !bytes.Equal(memory, before) {
			t.Fatal("Split, Parts: the answers share memory")
		}
		all := parts[:cap(parts)]
		clear(all)
		clear(memory)
		if !bytes.Equal(held2, wantHeld) || !bytes.Equal(rest2, wantRest) || !sameTexts(parts2, wantParts) {
			t.Fatal("Split, Parts: the answers change with the text, or with other answers")
		}
	}
}

// P7.10, P0.3: Join's bytes are new memory; also where there is one part, or none with bytes.
func TestJoinApart(t *testing.T) {
	row := chance.Row(713)
	for range 300 {
		text, memory := row.Roomy(row.Below(300))
		parts := row.Parts(text)
		if row.Below(2) == 0 {
			parts = [][]byte{text}
		}
		before, want := slices.Clone(memory), slices.Concat(modelHead(0xc0, len(text)), text)
		lengths := make([]int, len(parts))
		for i := range parts {
			lengths[i] = len(parts[i])
		}
		b, _ := rlp.Join(parts...)
		again, _ := rlp.Join(parts...)
		clear(b[:cap(b)])
		if !bytes.Equal(memory, before) || !bytes.Equal(again, want) {
			t.Fatal("Join writes into its parts, or its answers share memory")
		}
		for i := range parts {
			if len(parts[i]) != lengths[i] {
				t.Fatal("Join writes into the list of its parts")
			}
		}
		clear(memory)
		if !bytes.Equal(again, want) {
			t.Fatal("Join: the answer changes with its parts")
		}
	}
}

// P7.10, P0.3: Text, Number, Small and List make items of new memory, down to the last one.
func TestMakingApart(t *testing.T) {
	row := chance.Row(714)
	for range 500 {
		data, memory := row.Roomy(row.Below(70))
		twin := text(string(data))
		before := slices.Clone(memory)
		one, other := rlp.Text(data), rlp.Text(data)
		clear(one.Data[:cap(one.Data)])
		if !bytes.Equal(memory, before) || !same(other, twin) {
			t.Fatal("Text: the item shares memory")
		}
		clear(memory)
		if !same(other, twin) {
			t.Fatal("Text: the item changes with its text")
		}

		number := row.Number()
		all := [][]byte{rlp.Number(number).Data, rlp.Number(number).Data, rlp.Small(number[0]).Data, rlp.Small(number[0]).Data}
		if !areApart(all) || !same(rlp.Number(number), api.Item{Data: modelNumber(number)}) {
			t.Fatal("Number, Small: the items share memory")
		}
	}
	for range 500 {
		it, twin := roomyTree(&row, 4)
		items, twins := make([]api.Item, 2, 5), []api.Item{twin, twin}
		items[0], items[1] = it, it // a list that stands in two places
		before := whole(list(items...))
		one, other := rlp.List(items...), rlp.List(items...)
		if !isApart(one) || !same(whole(list(items...)), before) || !same(other, list(twins...)) {
			t.Fatal("List: the item shares memory")
		}
		isApart(it)
		clear(items[:cap(items)])
		if !same(other, list(twins...)) {
			t.Fatal("List: the item changes with its items")
		}
	}
}

// P7.10, P0.3: what is read of an item is new memory, down to the last item.
func TestReadingApart(t *testing.T) {
	row := chance.Row(715)
	for range 500 {
		data, memory := row.Roomy(row.Below(70))
		before, want := slices.Clone(memory), slices.Clone(data)
		it := api.Item{Data: data}
		first, _ := rlp.GetText(it)
		second, _ := rlp.GetFixed(it, len(data))
		third, _ := rlp.GetText(it)
		fourth, _ := rlp.GetFixed(it, len(data))
		if !areApart([][]byte{first, second}) || !bytes.Equal(memory, before) {
			t.Fatal("GetText, GetFixed: the answers share memory")
		}
		clear(memory)
		if !bytes.Equal(third, want) || !bytes.Equal(fourth, want) {
			t.Fatal("GetText, GetFixed: the answers change with the item")
		}
	}
	for range 500 {
		it, twin := roomyTree(&row, 4)
		it.List, twin.List, it.Data, twin.Data = true, true, nil, nil
		before := whole(it)
		one, e := rlp.GetList(it)
		other, f := rlp.GetList(it)
		if e != api.OK || f != api.OK || !isApart(api.Item{List: true, Items: one}) || !same(whole(it), before) || !sameItems(other, twin.Items) {
			t.Fatalf("GetList: %d, %d, or the answers share memory", e, f)
		}
		isApart(it)
		if !sameItems(other, twin.Items) {
			t.Fatal("GetList: the answer changes with the item")
		}
	}
}
