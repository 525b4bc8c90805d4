package trie_test

import (
	"encoding/hex"
	"slices"
	"strings"
	"testing"

	"waybill/api"
	"waybill/chance"
	"waybill/rlp"
	"waybill/trie"
)

// P12.3, P12.7, P12.9: the chapter's examples 1 to 5, the document's example 5, and roots known from other programs' tests.
func TestKnownRoots(t *testing.T) {
	for _, x := range []struct {
		c    content
		want string
	}{
		{content{}, emptyRoot},
		{content{"a": "x"}, "6fa762f54f5feb347453b423be702ce32d6024261434ba01c74edb625b5090a4"},
		{content{"": "x"}, "f5cfb05ef07e03e43d77cbb7d0e5ce3d4d1f2cf359c14db3aff42deff5f67862"},
		{content{"a": "x", "b": "y"}, "f4515e0c3386b3bcea5ef79051c7735d6afa0b55efb8d19cddda3647d2e13bde"},
		{content{"a": "x", "ab": "y"}, "d74751f7928e4bc696cb5006ffc6be09a04762a137188bd254ff3a5d6ca7ab39"},
		{content{"": "v", "a": "x"}, "e013299089604096d92a4280f90dd9f5be1cfbba13244123a1743b767ccb5eb7"},
		{content{"do": "verb", "dog": "puppy", "doge": "coin", "horse": "stallion"}, "5991bb8c6514148a29db676a14ac506cd2cd5775ace63c30a4fe457715e9ac84"},
		{content{"\x12\x34": long, "\x12\x35": "z"}, "3bc1bb1a1fdb463301be49c0e19e8b6a197dca11c318eab94c07ef0a4fc0a366"},
		{content{"A": strings.Repeat("a", 50)}, "d23786fb4a010da3ce639d66d5e904a11dbc02746d1ce25029e53290cabf28ab"},
		{content{"doe": "reindeer", "dog": "puppy", "dogglesworth": "cat"}, "8aad789dff2f538bca5d8ea56e8abe10f4c7ba3a5dea95fea4cd6e7c3a1168d3"},
		{content{"foo": "bar", "food": "bass"}, "17beaa1648bafa633cda809c90c04af50fc8aed3cb40d16efbddee6fdf63c4c3"},
		{content{"be": "e", "dog": "puppy", "bed": "d"}, "3f67c7a47520f79faa29255d2d3c084a7a6df0453116ed7232ff10277a8be68b"},
		{content{"test": "test", "te": "testy"}, "8452568af70d8d140f58d941338542f645fcca50094b20f3c3d8c3df49337928"},
		{content{"\x00\x45": "\x01\x23\x45\x67\x89", "\x45\x00": "\x98\x76\x54\x32\x10"}, "285505fcabe84badc8aa310e2aae17eddc7d120aabec8a476902c8184b3a3503"},
	} {
		if got, e := trie.Root(x.c.pairs()); got != hashOf(x.want) || e != api.OK {
			t.Errorf("Root(%q) = %x, %d, want %s", x.c, got, e, x.want)
		}
		if got := x.c.filled(t).Root(); got != hashOf(x.want) {
			t.Errorf("the root of %q = %x, want %s", x.c, got, x.want)
		}
		if got := x.c.modelRoot(); got != hashOf(x.want) {
			t.Errorf("the model's root of %q = %x, want %s", x.c, got, x.want)
		}
	}
}

// pair tells a pair of texts.
func pair(key, value string) api.Pair { return api.Pair{Key: []byte(key), Value: []byte(value)} }

// P12.7, P0.2: in the pairs' order the first that may not be; only then a key that stands twice.
func TestRootRefused(t *testing.T) {
	over, tooLong := strings.Repeat("k", 65), strings.Repeat("v", api.MaxInput+1)
	for i, x := range []struct {
		pairs []api.Pair
		want  api.Errno
	}{
		{[]api.Pair{pair("a", "x"), pair("a", "y")}, api.ErrTrieOrder}, {[]api.Pair{pair("a", "x"), pair("a", "x")}, api.ErrTrieOrder}, {[]api.Pair{pair("", "x"), pair("b", "x"), pair("", "y")}, api.ErrTrieOrder}, {[]api.Pair{pair("", "x"), {Value: []byte("x")}}, api.ErrTrieOrder},
		{[]api.Pair{pair("b", "x"), pair("a", "y"), pair("ab", "z"), pair("a", "y")}, api.ErrTrieOrder}, {[]api.Pair{pair("b", "x"), pair("a", "y"), pair("ab", "z")}, api.OK},
		{[]api.Pair{pair("a", "x"), pair("a", "")}, api.ErrTrieValue}, {[]api.Pair{pair("a", "x"), pair("a", "y"), pair("b", "")}, api.ErrTrieValue}, {[]api.Pair{pair("a", "x"), pair("a", "y"), pair(over, "x")}, api.ErrTrieKey}, {[]api.Pair{pair("a", "x"), pair("a", "y"), pair("b", tooLong)}, api.ErrLong},
		{[]api.Pair{pair("b", ""), pair(over, "x")}, api.ErrTrieValue}, {[]api.Pair{pair(over, "x"), pair("b", "")}, api.ErrTrieKey}, {[]api.Pair{pair("b", tooLong), pair("c", "")}, api.ErrLong}, {[]api.Pair{pair("c", ""), pair("b", tooLong)}, api.ErrTrieValue},
		{[]api.Pair{pair(over, "")}, api.ErrTrieKey}, {[]api.Pair{pair(over, tooLong)}, api.ErrTrieKey}, {[]api.Pair{{}}, api.ErrTrieValue}, {[]api.Pair{pair(over[:64], "x")}, api.OK},
	} {
		got, e := trie.Root(x.pairs)
		if e != x.want || e != api.OK && got != (api.Hash{}) {
			t.Errorf("row %d: %x, %d, want %d", i, got, e, x.want)
		}
	}
}

// P12.7, P12.10: pairs in any order have one root.
func TestRootInAnyOrder(t *testing.T) {
	row := chance.Row(129)
	for range 100 {
		c := content{}
		for range row.Below(60) {
			c[anyKey(&row)] = anyValue(&row)
		}
		sorted := c.pairs()
		turned := make([]api.Pair, len(sorted))
		for i, at := range anyOrder(&row, len(sorted)) {
			turned[i] = sorted[at]
		}
		want := c.modelRoot()
		for _, pairs := range [][]api.Pair{sorted, turned} {
			if got, e := trie.Root(pairs); got != want || e != api.OK {
				t.Errorf("Root = %x, %d, want %x", got, e, want)
			}
		}
	}
}

// P12.8: the chapter's sixth example, and the keys that it names.
func TestExampleOfLists(t *testing.T) {
	a, b := []byte("a"), []byte("b")
	for _, x := range []struct {
		items [][]byte
		want  string
		e     api.Errno
	}{
		{nil, emptyRoot, api.OK}, {[][]byte{}, emptyRoot, api.OK},
		{[][]byte{a}, "0934a6a4a84a455b46bf2e427c90fbc07dbce3fd6fe5b9213cc6cd7c8030792c", api.OK},
		{[][]byte{a, b}, "60bf70c11e7040276c82c8d38090aae63edb63f8a3f232bfd652a454ace386b1", api.OK},
		{[][]byte{a, nil}, strings.Repeat("0", 64), api.ErrTrieValue}, {[][]byte{nil}, strings.Repeat("0", 64), api.ErrTrieValue}, {[][]byte{{}, a}, strings.Repeat("0", 64), api.ErrTrieValue},
	} {
		if got, e := trie.ListRoot(x.items); got != hashOf(x.want) || e != x.e {
			t.Errorf("ListRoot(%q) = %x, %d, want %s, %d", x.items, got, e, x.want, x.e)
		}
	}
	for place, want := range map[int]string{0: "80", 1: "01", 127: "7f", 128: "8180", 256: "820100"} {
		if got := hex.EncodeToString([]byte(placeKey(place))); got != want {
			t.Errorf("the model's key of the place %d = %s", place, got)
		}
	}
}

// placeKey tells the key of a place in a list.
func placeKey(place int) string {
	var b []byte
	for ; place > 0; place >>= 8 {
		b = append([]byte{byte(place)}, b...)
	}
	return string(modelBytes(modelText(b)))
}

// listContent tells what the trie of a list holds.
func listContent(items [][]byte) content {
	c := content{}
	for i, item := range items {
		c[placeKey(i)] = string(item)
	}
	return c
}

// P12.8: lists of all lengths around those where the keys grow, and the longest one.
func TestListRoot(t *testing.T) {
	row := chance.Row(1210)
	var items [][]byte
	for i := range api.MaxList - 1 {
		item, _ := rlp.Encode(rlp.Small(uint64(i) * 77))
		if i%5 == 0 {
			item = row.Text(1 + row.Below(60))
		}
		items = append(items, item)
	}
	for _, n := range []int{1, 2, 3, 16, 17, 126, 127, 128, 129, 130, 200, 255, 256, 257, 258, 300, 4097, len(items)} {
		c := listContent(items[:n])
		if len(c) != n {
			t.Fatalf("%d places have %d keys", n, len(c))
		}
		want := c.modelRoot()
		if got, e := trie.ListRoot(items[:n]); got != want || e != api.OK {
			t.Errorf("ListRoot of %d = %x, %d, want %x", n, got, e, want)
		}
	}
}

// P12.8, P0.2: too many items count ahead of what they are; then the first item that may not be.
func TestListRefused(t *testing.T) {
	tooLong := make([]byte, api.MaxInput+1)
	ok := slices.Repeat([][]byte{{1}}, api.MaxList)
	with := func(n int, changed map[int][]byte) [][]byte {
		items := slices.Clone(ok[:n])
		for i, item := range changed {
			items[i] = item
		}
		return items
	}
	for i, x := range []struct {
		items [][]byte
		want  api.Errno
	}{
		{ok, api.ErrArg}, {make([][]byte, api.MaxList), api.ErrArg}, {make([][]byte, api.MaxList+7), api.ErrArg}, {with(api.MaxList, map[int][]byte{0: tooLong}), api.ErrArg},
		{make([][]byte, api.MaxList-1), api.ErrTrieValue}, {with(api.MaxList-1, map[int][]byte{api.MaxList - 2: nil}), api.ErrTrieValue},
		{with(9, map[int][]byte{3: nil, 5: tooLong}), api.ErrTrieValue}, {with(9, map[int][]byte{3: tooLong, 5: nil}), api.ErrLong}, {with(9, map[int][]byte{8: tooLong}), api.ErrLong}, {[][]byte{tooLong}, api.ErrLong},
	} {
		if got, e := trie.ListRoot(x.items); got != (api.Hash{}) || e != x.want {
			t.Errorf("row %d: %x, %d, want %d", i, got, e, x.want)
		}
	}
}

// P12.7: the greatest lists of pairs have no limit of their own.
func TestManyPairs(t *testing.T) {
	row := chance.Row(1211)
	c := content{}
	for len(c) < api.MaxList+5 {
		c[string(row.Text(4))] = "v"
	}
	if got, e := trie.Root(c.pairs()); got != c.modelRoot() || e != api.OK {
		t.Errorf("Root of %d pairs = %x, %d", len(c), got, e)
	}
}
