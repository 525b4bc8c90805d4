package access_test

import (
	"slices"
	"sync"
	"testing"

	"waybill/access"
	"waybill/api"
	"waybill/chance"
)

// whole tells a tree with all that stands in the room beyond its lists' and texts' ends, in memory of its own.
func whole(it api.Item) api.Item {
	twin := api.Item{List: it.List, Data: slices.Clone(it.Data[:cap(it.Data)])}
	for _, inner := range it.Items[:cap(it.Items)] {
		twin.Items = append(twin.Items, whole(inner))
	}
	return twin
}

// wholeEntries does the same with an access list.
func wholeEntries(entries []api.AccessEntry) []api.AccessEntry {
	twins := slices.Clone(entries[:cap(entries)])
	for i, entry := range twins {
		twins[i].Keys = slices.Clone(entry.Keys[:cap(entry.Keys)])
	}
	return twins
}

// roomy tells a tree again, its texts and lists with room beyond their ends.
func roomy(row *chance.Row, it api.Item) api.Item {
	twin := api.Item{List: it.List}
	if len(it.Data) > 0 || row.Below(2) == 0 {
		twin.Data, _ = row.Roomy(len(it.Data))
		copy(twin.Data, it.Data)
	}
	if len(it.Items) > 0 || row.Below(2) == 0 {
		twin.Items = make([]api.Item, len(it.Items), len(it.Items)+3)
		for i, inner := range it.Items {
			twin.Items[i] = roomy(row, inner)
		}
		twin.Items[:cap(twin.Items)][len(it.Items)] = text(row.Text(20)...)
	}
	return twin
}

// roomyEntries does the same with an access list.
func roomyEntries(row *chance.Row, entries []api.AccessEntry) []api.AccessEntry {
	twins := make([]api.AccessEntry, len(entries)+3)
	for i, entry := range entries {
		keys := make([]api.Hash, len(entry.Keys)+3)
		copy(keys, entry.Keys)
		keys[len(entry.Keys)] = anyKey(row)
		twins[i] = api.AccessEntry{Address: entry.Address, Keys: keys[:len(entry.Keys)]}
	}
	twins[len(entries)] = api.AccessEntry{Address: anyAddress(row), Keys: []api.Hash{anyKey(row)}}
	return twins[:len(entries)]
}

// isApart paints each text and each list of a tree in a colour of its own, with the room beyond its end, and tells whether each one keeps it. The tree is spoilt then.
func isApart(it api.Item) bool {
	var texts [][]byte
	var lists [][]api.Item
	var walk func(it api.Item)
	walk = func(it api.Item) {
		texts, lists = append(texts, it.Data[:cap(it.Data)]), append(lists, it.Items[:cap(it.Items)])
		for _, inner := range it.Items {
			walk(inner)
		}
	}
	walk(it)
	for i := range texts {
		paint(texts[i], byte(i))
		paint(lists[i], small(uint64(i)))
	}
	for i := range texts {
		if !isPainted(texts[i], func(b byte) bool { return b == byte(i) }) || !isPainted(lists[i], func(it api.Item) bool { return same(it, small(uint64(i))) }) {
			return false
		}
	}
	return true
}

func paint[T any](all []T, colour T) {
	for i := range all {
		all[i] = colour
	}
}

func isPainted[T any](all []T, is func(T) bool) bool {
	return !slices.ContainsFunc(all, func(one T) bool { return !is(one) })
}

// areKeysApart does it with the keys of an access list.
func areKeysApart(entries []api.AccessEntry) bool {
	for i, entry := range entries {
		paint(entry.Keys[:cap(entry.Keys)], api.Hash{byte(i)})
	}
	for i, entry := range entries {
		if !isPainted(entry.Keys[:cap(entry.Keys)], func(key api.Hash) bool { return key == api.Hash{byte(i)} }) {
			return false
		}
	}
	return true
}

// P14.11, P0.3: Item, Count and Warm write nothing into a list, and the items share nothing with it, nor with each other.
func TestItemApart(t *testing.T) {
	row := chance.Row(1430)
	for range 300 {
		plain := anyEntries(&row, 5)
		if len(plain) > 1 {
			plain[0].Keys = plain[1].Keys // one list of keys in two entries
		}
		entries := roomyEntries(&row, plain)
		if len(entries) > 1 {
			entries[0].Keys = entries[1].Keys
		}
		want, before := treeOf(plain), wholeEntries(entries)
		first, e := access.Item(entries)
		second, f := access.Item(entries)
		access.Count(entries)
		access.Warm(entries, anyAddress(&row), anyKey(&row))
		if e != api.OK || f != api.OK || !sameEntries(wholeEntries(entries), before) {
			t.Fatalf("Item: %d, %d, or the list was written to", e, f)
		}
		if !isApart(first) || !sameEntries(wholeEntries(entries), before) || !same(second, want) {
			t.Fatal("the items share memory with each other, or with the list")
		}
		areKeysApart(entries)
		clear(entries[:cap(entries)])
		if !same(second, want) {
			t.Fatal("the item changes with the list")
		}
	}
}

// P14.11, P0.3: Parse writes nothing into an item, and the lists share nothing with it, nor with each other.
func TestParseApart(t *testing.T) {
	row := chance.Row(1431)
	for range 300 {
		plain := anyEntries(&row, 5)
		it := roomy(&row, treeOf(plain))
		before := whole(it)
		first, e := access.Parse(it)
		second, f := access.Parse(it)
		if e != api.OK || f != api.OK || !same(whole(it), before) {
			t.Fatalf("Parse: %d, %d, or the item was written to", e, f)
		}
		if !areKeysApart(first) || !same(whole(it), before) || !sameEntries(second, plain) {
			t.Fatal("the lists share memory with each other, or with the item")
		}
		clear(first[:cap(first)])
		isApart(it)
		if !sameEntries(second, plain) {
			t.Fatal("the list changes with the item, or with another list")
		}
	}
}

// P14.11, P0.3: the same of AuthItem and ParseAuth.
func TestAuthsApart(t *testing.T) {
	row := chance.Row(1432)
	for range 300 {
		plain := anyAuths(&row, 5)
		memory := append(slices.Clone(plain), anyAuth(&row), anyAuth(&row))
		auths, before := memory[:len(plain)], slices.Clone(memory)
		first, e := access.AuthItem(auths)
		second, f := access.AuthItem(auths)
		if e != api.OK || f != api.OK || !slices.Equal(memory, before) {
			t.Fatalf("AuthItem: %d, %d, or the list was written to", e, f)
		}
		if !isApart(first) || !slices.Equal(memory, before) || !same(second, authTree(plain)) {
			t.Fatal("the items share memory with each other, or with the list")
		}
		clear(memory)
		if !same(second, authTree(plain)) {
			t.Fatal("the item changes with the list")
		}

		it := roomy(&row, second)
		held := whole(it)
		third, e := access.ParseAuth(it)
		fourth, f := access.ParseAuth(it)
		if e != api.OK || f != api.OK || !same(whole(it), held) {
			t.Fatalf("ParseAuth: %d, %d, or the item was written to", e, f)
		}
		clear(third[:cap(third)])
		isApart(it)
		if !slices.Equal(fourth, plain) {
			t.Fatal("the list changes with the item, or with another list")
		}
	}
}

// P14.11, P0.3: what is refused is not written to either.
func TestRefusedApart(t *testing.T) {
	row := chance.Row(1433)
	refused := 0
	for range 2000 {
		it := roomy(&row, spoilt(&row, treeOf(anyEntries(&row, 3))))
		if row.Below(2) == 0 {
			it = roomy(&row, spoilt(&row, authTree(anyAuths(&row, 3))))
		}
		before := whole(it)
		_, e := access.Parse(it)
		_, f := access.ParseAuth(it)
		if !same(whole(it), before) {
			t.Fatal("an item was written to")
		}
		if e != api.OK && f != api.OK {
			refused++
		}
	}
	if refused < 500 {
		t.Errorf("only %d were refused", refused)
	}
}

// P0.4: nil and a list of length 0 are the same.
func TestNilAndEmpty(t *testing.T) {
	noKeys := list(list(text(make([]byte, 20)...), list()))
	for _, keys := range [][]api.Hash{nil, {}, make([]api.Hash, 0, 5)} {
		if it, e := access.Item([]api.AccessEntry{{Keys: keys}}); !same(it, noKeys) || e != api.OK {
			t.Errorf("Item of an entry without keys = %v, %d", it, e)
		}
		if address, storage := access.Warm([]api.AccessEntry{{Keys: keys}}, nobody, api.Hash{}); !address || storage {
			t.Errorf("Warm of an entry without keys = %t, %t", address, storage)
		}
	}
	for _, entries := range [][]api.AccessEntry{nil, {}, make([]api.AccessEntry, 0, 5)} {
		if it, e := access.Item(entries); !same(it, list()) || e != api.OK {
			t.Errorf("Item of nothing = %v, %d", it, e)
		}
		if address, storage := access.Warm(entries, nobody, api.Hash{}); address || storage {
			t.Errorf("Warm of nothing = %t, %t", address, storage)
		}
	}
	for _, auths := range [][]api.Auth{nil, {}, make([]api.Auth, 0, 5)} {
		if it, e := access.AuthItem(auths); !same(it, list()) || e != api.OK {
			t.Errorf("AuthItem of nothing = %v, %d", it, e)
		}
	}
	for _, data := range [][]byte{nil, {}, make([]byte, 0, 5)} {
		for _, items := range [][]api.Item{nil, {}, make([]api.Item, 0, 5)} {
			empty := api.Item{List: true, Data: data, Items: items}
			if got, e := access.Parse(empty); len(got) != 0 || e != api.OK {
				t.Errorf("Parse of the empty list = %v, %d", got, e)
			}
			if got, e := access.ParseAuth(empty); len(got) != 0 || e != api.OK {
				t.Errorf("ParseAuth of the empty list = %v, %d", got, e)
			}
			empty.List = false
			if got, e := access.ParseAuth(field(0, empty)); len(got) != 1 || e != api.OK {
				t.Errorf("ParseAuth of a number without bytes = %v, %d", got, e)
			}
		}
	}
}

// P0.6: the same again has the same answer, also while others ask at the same time.
func TestSameAgain(t *testing.T) {
	row := chance.Row(1434)
	entries, auths := anyEntries(&row, 20), anyAuths(&row, 20)
	signed, _ := access.SignAuth(api.Auth{Nonce: 7}, api.U256{77})
	owner, _ := access.Authority(signed)
	var workers sync.WaitGroup
	for range 8 {
		workers.Go(func() {
			for range 5 {
				it, e := access.Item(entries)
				again, f := access.Parse(it)
				if e != api.OK || f != api.OK || !sameEntries(again, entries) {
					t.Errorf("Item and Parse: %d, %d", e, f)
				}
				it, e = access.AuthItem(auths)
				twins, f := access.ParseAuth(it)
				if e != api.OK || f != api.OK || !slices.Equal(twins, auths) {
					t.Errorf("AuthItem and ParseAuth: %d, %d", e, f)
				}
				access.SignAuth(api.Auth{Nonce: 8}, api.U256{78})
				a, e := access.SignAuth(api.Auth{Nonce: 7}, api.U256{77})
				who, f := access.Authority(a)
				if a != signed || who != owner || e != api.OK || f != api.OK {
					t.Errorf("SignAuth and Authority: %d, %d", e, f)
				}
			}
		})
	}
	workers.Wait()
}
