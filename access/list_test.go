package access_test

import (
	"bytes"
	"slices"
	"testing"

	"waybill/access"
	"waybill/api"
	"waybill/chance"
	"waybill/rlp"
)

// checkItem holds Item against its model (P14.1, P0.2), Parse of its answer against the list (P14.10), and tells the error.
func checkItem(t *testing.T, entries []api.AccessEntry) api.Errno {
	t.Helper()
	want, wantE := modelItem(entries)
	it, e := access.Item(entries)
	if !same(it, want) || e != wantE {
		t.Errorf("Item of %d entries: %d, want %d, or not the item that is wanted", len(entries), e, wantE)
	}
	if e != api.OK {
		return e
	}
	if again, e := access.Parse(it); !sameEntries(again, entries) || e != api.OK {
		t.Errorf("Parse of Item of %d entries: %d entries, %d", len(entries), len(again), e)
	}
	return e
}

// checkParse holds Parse against its model (P14.2, P0.2), Item of its answer against the item (P14.10), and tells the error.
func checkParse(t *testing.T, it api.Item) api.Errno {
	t.Helper()
	want, wantE := modelParse(it)
	got, e := access.Parse(it)
	if !sameEntries(got, want) || e != wantE {
		t.Errorf("Parse(%v) = %v, %d, want %v, %d", it, got, e, want, wantE)
	}
	if e != api.OK {
		return e
	}
	if again, e := access.Item(got); !same(again, it) || e != api.OK {
		t.Errorf("Item of Parse(%v) = %v, %d", it, again, e)
	}
	return e
}

// P14.1, P14.2: the chapter's first two examples.
func TestExamplesOfLists(t *testing.T) {
	it, e := access.Item(nil)
	if b, f := rlp.Encode(it); !bytes.Equal(b, []byte{0xc0}) || e != api.OK || f != api.OK {
		t.Errorf("Item of nothing: %x, %d, %d", b, e, f)
	}
	if got, e := access.Parse(list()); len(got) != 0 || e != api.OK {
		t.Errorf("Parse of the empty list = %v, %d", got, e)
	}
	a, key := api.Address{19: 1}, api.Hash{31: 2}
	it, e = access.Item([]api.AccessEntry{{Address: a, Keys: []api.Hash{key}}})
	want := slices.Concat(digits("f838 f794"), a[:], digits("e1a0"), key[:])
	if b, f := rlp.Encode(it); !bytes.Equal(b, want) || len(b) != 58 || e != api.OK || f != api.OK {
		t.Errorf("Item of an entry with a key: %x, %d, %d", b, e, f)
	}
	one, keys := text(a[:]...), list(text(key[:]...))
	if got, e := access.Parse(list(list(one, keys))); e != api.OK || len(got) != 1 || got[0].Address != a || !slices.Equal(got[0].Keys, []api.Hash{key}) {
		t.Errorf("Parse of an entry with a key = %v, %d", got, e)
	}
	for i, wrong := range []api.Item{
		text(), text(1), text(a[:]...), // a text
		list(text()), list(one), // a list that holds a text
		list(list(one)), list(list(keys)), list(list(one, keys, keys)), list(list(one, keys, text())), list(list()), // a list of one, of three, of none
		list(list(text(a[:19]...), keys)), list(list(text(make([]byte, 21)...), keys)), list(list(text(), keys)),
		list(list(one, list(text(key[:31]...)))), list(list(one, list(text(make([]byte, 33)...)))), list(list(one, list(text()))),
		list(list(one, text(key[:]...))), list(list(one, text())), list(list(list(), keys)), list(list(keys, one)), list(list(one, list(keys))),
		list(list(one, keys), list(one)), list(list(one, list(text(key[:]...), one))), // a fault behind what is right
	} {
		if got, e := access.Parse(wrong); got != nil || e != api.ErrAccess {
			t.Errorf("Parse of the wrong item %d = %v, %d", i, got, e)
		}
		checkParse(t, wrong)
	}
}

// P14.2: a list with bytes and a text with items are none, wherever they stand.
func TestParseOdd(t *testing.T) {
	address, key := text(make([]byte, 20)...), text(make([]byte, 32)...)
	pair := func(address, keys api.Item) api.Item { return list(list(address, keys)) }
	if e := checkParse(t, pair(address, list(key))); e != api.OK {
		t.Errorf("Parse of an entry of zeros: %d", e)
	}
	oddList := func(items ...api.Item) api.Item { return api.Item{List: true, Data: []byte{0}, Items: items} }
	oddText := func(it api.Item) api.Item { return api.Item{Data: it.Data, Items: []api.Item{{}}} }
	for i, odd := range []api.Item{
		oddList(), oddText(text()), oddList(list(address, list(key))), list(oddList(address, list(key))), pair(oddText(address), list(key)), pair(address, oddList(key)), pair(address, oddList()), pair(address, list(oddText(key))), list(oddText(text())),
		{Items: []api.Item{list(address, list(key))}}, list(api.Item{Items: []api.Item{address, list(key)}}), pair(address, api.Item{Items: []api.Item{key}}), // items, but not said to be a list
		pair(api.Item{List: true, Data: address.Data}, list(key)), pair(address, list(api.Item{List: true, Data: key.Data})), // bytes, but said to be a list
	} {
		if got, e := access.Parse(odd); got != nil || e != api.ErrAccess {
			t.Errorf("Parse of the odd item %d = %v, %d", i, got, e)
		}
		checkParse(t, odd)
	}
}

// P14.2: addresses and keys of all lengths; one alone is right.
func TestParseLengths(t *testing.T) {
	for n := range 70 {
		data := text(bytes.Repeat([]byte{7}, n)...)
		if e := checkParse(t, list(list(data, list()))); (e == api.OK) != (n == 20) {
			t.Errorf("an address of %d bytes: %d", n, e)
		}
		if e := checkParse(t, list(list(text(make([]byte, 20)...), list(data)))); (e == api.OK) != (n == 32) {
			t.Errorf("a key of %d bytes: %d", n, e)
		}
		items := slices.Repeat([]api.Item{list()}, n)
		if n > 0 {
			items[0] = text(make([]byte, 20)...)
		}
		if e := checkParse(t, list(list(items...))); (e == api.OK) != (n == 2) {
			t.Errorf("an entry of %d items: %d", n, e)
		}
	}
}

// P14.1, P14.2, P14.10: lists by chance, with addresses and keys that stand several times, there and back.
func TestItemAndParse(t *testing.T) {
	row := chance.Row(1401)
	twice := 0
	for range 1000 {
		entries := anyEntries(&row, 6)
		if e := checkItem(t, entries); e != api.OK {
			t.Errorf("Item of a short list: %d", e)
		}
		if e := checkParse(t, treeOf(entries)); e != api.OK {
			t.Errorf("Parse of a short list's item: %d", e)
		}
		seen := map[api.Address]int{}
		for _, entry := range entries {
			seen[entry.Address]++
		}
		if len(seen) < len(entries) {
			twice++
		}
	}
	if twice < 100 {
		t.Errorf("an address hardly ever stands twice: %d", twice)
	}
	for _, n := range []int{0, 1, 2, 3, 7, 8, 9, 254, 255, 256, 257, 1985, 1986, 65535, 65536, 65537} { // around the lengths at which heads change, and MaxList
		checkItem(t, make([]api.AccessEntry, n))
		checkItem(t, []api.AccessEntry{{Address: api.Address{1}, Keys: make([]api.Hash, n)}})
	}
}

// P14.2: each item of a tree changed in each way, and trees that are spoilt by chance.
func TestParseSpoilt(t *testing.T) {
	row := chance.Row(1402)
	counts := map[api.Errno]int{}
	for range 30 {
		eachChange(treeOf(anyEntries(&row, 3)), func(it api.Item) { counts[checkParse(t, it)]++ })
	}
	for range 5000 {
		it := treeOf(anyEntries(&row, 4))
		for range 1 + row.Below(3) {
			it = spoilt(&row, it)
		}
		counts[checkParse(t, it)]++
	}
	if counts[api.OK] < 1000 || counts[api.ErrAccess] < 1000 {
		t.Errorf("an answer hardly ever comes: %v", counts)
	}
}

// sized tells a list whose item takes so many bytes, and its tree: one entry so many times, and others without a key or with one. The tree has each item but once in the memory.
func sized(size int, entry api.AccessEntry, times int) (entries []api.AccessEntry, tree api.Item) {
	const head = 4 // of what has more than 65535 bytes and fewer than 2^24
	bare, keyed := parted(size-head-times*modelSize(entryTree(entry)), 23, 56)
	tree = list()
	for _, part := range []struct {
		entry api.AccessEntry
		times int
	}{{entry, times}, {api.AccessEntry{}, bare}, {api.AccessEntry{Keys: make([]api.Hash, 1)}, keyed}} {
		entries = append(entries, slices.Repeat([]api.AccessEntry{part.entry}, part.times)...)
		tree.Items = append(tree.Items, slices.Repeat([]api.Item{entryTree(part.entry)}, part.times)...)
	}
	return entries, tree
}

// P14.1, P0.7: just MaxInput bytes are taken, one more is not, whatever the list is made of.
func TestItemLong(t *testing.T) {
	for _, c := range []struct{ keys, times int }{{508000, 1}, {0, 700000}, {1, 299000}, {3, 130000}} {
		for size, want := range map[int]api.Errno{api.MaxInput: api.OK, api.MaxInput + 1: api.ErrLong} {
			entries, tree := sized(size, api.AccessEntry{Address: api.Address{1}, Keys: make([]api.Hash, c.keys)}, c.times)
			if got := modelSize(tree); got != size {
				t.Fatalf("a list of %d bytes, not %d", got, size)
			}
			if it, e := access.Item(entries); e != want || e == api.OK && !same(it, tree) || e != api.OK && !same(it, nothing) {
				t.Errorf("Item of %d bytes, most of them entries of %d keys: %d, want %d", size, c.keys, e, want)
			}
		}
	}
	if e := checkItem(t, make([]api.AccessEntry, 729444)); e != api.OK { // 4 bytes and 23 for each: just MaxInput
		t.Errorf("729444 entries: %d", e)
	}
	if e := checkItem(t, make([]api.AccessEntry, 729445)); e != api.ErrLong {
		t.Errorf("729445 entries: %d", e)
	}
}

// P14.1, P0.1: lists that are far too long, keys that stand in several entries among them.
func TestItemFarTooLong(t *testing.T) {
	keys := make([]api.Hash, 1<<20)
	for _, entries := range [][]api.AccessEntry{
		{{Keys: keys}}, slices.Repeat([]api.AccessEntry{{Keys: keys}}, 60), make([]api.AccessEntry, 1<<22), {{Keys: keys[:400000]}, {Keys: keys[:400000]}},
	} {
		if it, e := access.Item(entries); !same(it, nothing) || e != api.ErrLong {
			t.Errorf("Item of %d entries: %d", len(entries), e)
		}
	}
}

// P14.2: how many bytes the item would take is not looked at.
func TestParseLong(t *testing.T) {
	entries := []api.AccessEntry{{Address: api.Address{1}, Keys: make([]api.Hash, 509000)}, {Address: api.Address{2}, Keys: []api.Hash{{3}}}}
	tree := treeOf(entries)
	if size := modelSize(tree); size <= api.MaxInput {
		t.Fatalf("only %d bytes", size)
	}
	if got, e := access.Parse(tree); !sameEntries(got, entries) || e != api.OK {
		t.Errorf("Parse of a long item: %d entries, %d", len(got), e)
	}
	tree.Items[1].Items[1].Items[0].Data = make([]byte, 31)
	if got, e := access.Parse(tree); got != nil || e != api.ErrAccess {
		t.Errorf("Parse of a long item with a fault at its end: %d entries, %d", len(got), e)
	}
	if got, e := access.Parse(text(make([]byte, api.MaxInput+1)...)); got != nil || e != api.ErrAccess {
		t.Errorf("Parse of a long text: %d entries, %d", len(got), e)
	}
}

// P14.2, P0.1: deep trees are no access lists, however deep.
func TestParseDeep(t *testing.T) {
	it := list()
	for depth := 1; depth < 60000; depth++ {
		if depth < 50 || depth%10000 == 0 {
			checkParse(t, it)
		}
		it = list(it)
	}
	address := text(make([]byte, 20)...)
	for _, deep := range []api.Item{it, list(list(address, it)), list(list(address, list(it))), list(list(it, list()))} {
		if got, e := access.Parse(deep); got != nil || e != api.ErrAccess {
			t.Errorf("Parse of a deep tree = %v, %d", got, e)
		}
	}
}

// P14.3, P14.4: the chapter's third example.
func TestExamplesOfCountAndWarm(t *testing.T) {
	a, other, key := api.Address{1}, api.Address{2}, api.Hash{3}
	if addresses, keys := access.Count([]api.AccessEntry{{Address: a}, {Address: other, Keys: make([]api.Hash, 3)}}); addresses != 2 || keys != 3 {
		t.Errorf("Count = %d, %d", addresses, keys)
	}
	for _, c := range []struct {
		entries          []api.AccessEntry
		address, storage bool
	}{
		{nil, false, false},
		{[]api.AccessEntry{{Address: a}, {Address: a, Keys: []api.Hash{key}}}, true, true},
		{[]api.AccessEntry{{Address: a, Keys: []api.Hash{key}}, {Address: a}}, true, true},
		{[]api.AccessEntry{{Address: a, Keys: []api.Hash{{}, key, {}}}}, true, true},
		{[]api.AccessEntry{{Address: a}, {Address: other, Keys: []api.Hash{key}}}, true, false},
		{[]api.AccessEntry{{Address: other, Keys: []api.Hash{key}}, {Address: a}}, true, false},
		{[]api.AccessEntry{{Address: other, Keys: []api.Hash{key}}}, false, false},
		{[]api.AccessEntry{{Address: a, Keys: []api.Hash{{}, {31: 3}}}}, true, false},
	} {
		if address, storage := access.Warm(c.entries, a, key); address != c.address || storage != c.storage {
			t.Errorf("Warm(%v) = %t, %t", c.entries, address, storage)
		}
	}
}

// P14.3: an entry that stands twice counts twice, and so does a key.
func TestCount(t *testing.T) {
	row := chance.Row(1403)
	for range 1000 {
		entries := anyEntries(&row, 8)
		addresses, keys := access.Count(entries)
		if wantA, wantK := modelCount(entries); addresses != wantA || keys != wantK {
			t.Errorf("Count(%v) = %d, %d", entries, addresses, keys)
		}
	}
	same := make([]api.Hash, 1<<16)
	if addresses, keys := access.Count(slices.Repeat([]api.AccessEntry{{Keys: same}}, 900)); addresses != 900 || keys != 900<<16 {
		t.Errorf("Count of many = %d, %d", addresses, keys)
	}
	if addresses, keys := access.Count(nil); addresses != 0 || keys != 0 {
		t.Errorf("Count of nothing = %d, %d", addresses, keys)
	}
}

// P14.4: each pair that stands there, the same with a bit turned, and others.
func TestWarm(t *testing.T) {
	row := chance.Row(1404)
	counts := map[[2]bool]int{}
	check := func(entries []api.AccessEntry, a api.Address, key api.Hash) {
		address, storage := access.Warm(entries, a, key)
		wantA, wantS := modelWarm(entries, a, key)
		if address != wantA || storage != wantS {
			t.Errorf("Warm(%v, %x, %x) = %t, %t", entries, a, key, address, storage)
		}
		counts[[2]bool{address, storage}]++
	}
	for range 300 {
		entries := anyEntries(&row, 6)
		check(entries, anyAddress(&row), anyKey(&row))
		for _, entry := range entries {
			check(entries, entry.Address, anyKey(&row))
			for _, key := range entry.Keys {
				check(entries, entry.Address, key)
				check(entries, anyAddress(&row), key)
				a, k := entry.Address, key
				a[row.Below(20)] ^= 1 << row.Below(8)
				k[row.Below(32)] ^= 1 << row.Below(8)
				check(entries, a, key)
				check(entries, entry.Address, k)
			}
		}
	}
	if counts[[2]bool{false, false}] < 100 || counts[[2]bool{true, false}] < 100 || counts[[2]bool{true, true}] < 100 || counts[[2]bool{false, true}] > 0 {
		t.Errorf("an answer hardly ever comes: %v", counts)
	}
}
