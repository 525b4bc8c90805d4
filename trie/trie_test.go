package trie_test

import (
	"slices"
	"strings"
	"testing"

	"waybill/api"
	"waybill/chance"
	"waybill/trie"
)

// P12.1: a new trie holds nothing, and two of them are two.
func TestNew(t *testing.T) {
	x, y := trie.New(), trie.New()
	if x == nil || y == nil || x == y {
		t.Fatal("New answers no trie of its own")
	}
	checkTrie(t, x, content{}, "", "a", strings.Repeat("k", 64), strings.Repeat("k", 65))
	mustPut(t, x, "a", "x")
	checkTrie(t, y, content{}, "a")
}

// P12.1, P0.1: which error comes first; a Put that is refused changes nothing.
func TestPutRefused(t *testing.T) {
	long, most := make([]byte, api.MaxInput+1), make([]byte, api.MaxKey)
	over := make([]byte, api.MaxKey+1)
	c := content{"": "none", "a": "x", string(most): "zeros"}
	x := c.filled(t)
	for _, p := range []struct {
		key, value []byte
		want       api.Errno
	}{
		{over, []byte("x"), api.ErrTrieKey}, {over, nil, api.ErrTrieKey}, {over, long, api.ErrTrieKey}, {make([]byte, 1000), []byte("x"), api.ErrTrieKey},
		{most, nil, api.ErrTrieValue}, {[]byte("a"), nil, api.ErrTrieValue}, {[]byte("a"), []byte{}, api.ErrTrieValue}, {nil, nil, api.ErrTrieValue}, {[]byte("b"), nil, api.ErrTrieValue},
		{[]byte("a"), long, api.ErrLong}, {most, long, api.ErrLong}, {nil, long, api.ErrLong}, {[]byte("b"), long, api.ErrLong},
	} {
		if e := x.Put(p.key, p.value); e != p.want {
			t.Errorf("Put(%d bytes, %d bytes) = %d, want %d", len(p.key), len(p.value), e, p.want)
		}
	}
	checkTrie(t, x, c, "b", string(over))
}

// P12.1, P0.4: a key of no bytes, of MaxKey bytes, a nil one; a value put over another one, a shorter and a longer one.
func TestPut(t *testing.T) {
	x, c := trie.New(), content{}
	most := strings.Repeat("\xff", api.MaxKey)
	for _, p := range [][2]string{{"", "v"}, {"", long}, {most, "w"}, {most, "ww"}, {most[1:], "z"}, {"a", "x"}, {"ab", "y"}, {"a", "\x00"}, {"ab", long}, {"ab", "y"}, {"", "v"}} {
		mustPut(t, x, p[0], p[1])
		c[p[0]] = p[1]
		checkTrie(t, x, c, "", "b", "abc", most[2:], most+"\xff")
	}
	if e := x.Put(nil, []byte("n")); e != api.OK {
		t.Errorf("Put(nil) = %d", e)
	}
	c[""] = "n"
	checkTrie(t, x, c)
	if got, ok := x.Get(nil); string(got) != "n" || !ok {
		t.Errorf("Get(nil) = %q, %t", got, ok)
	}
	if !x.Delete([]byte{}) || x.Delete(nil) {
		t.Error("Delete of the key without bytes")
	}
}

// P12.2: what is there, what only begins a key or goes on behind one, what is too long.
func TestGetDelete(t *testing.T) {
	c := content{"do": "verb", "dog": "puppy", "doge": "coin", "horse": "stallion"}
	x := c.filled(t)
	absent := []string{"", "d", "dogs", "doges", "h", "hors", "horses", "e", "\x64\x60", "\x64\x6e", strings.Repeat("d", 64), strings.Repeat("d", 65), strings.Repeat("d", 1000)}
	for _, key := range absent {
		if got, ok := x.Get([]byte(key)); len(got) != 0 || ok {
			t.Errorf("Get(%q) = %q, %t", key, got, ok)
		}
		if x.Delete([]byte(key)) {
			t.Errorf("Delete(%q) = true", key)
		}
		checkTrie(t, x, c)
	}
	for _, key := range []string{"dog", "horse", "do", "doge"} {
		if !x.Delete([]byte(key)) {
			t.Errorf("Delete(%q) = false", key)
		}
		delete(c, key)
		checkTrie(t, x, c, key)
		if x.Delete([]byte(key)) {
			t.Errorf("Delete(%q), again = true", key)
		}
		checkTrie(t, x, c, absent...)
	}
	mustPut(t, x, "dog", "again")
	checkTrie(t, x, content{"dog": "again"}, absent...)
}

// tellingKeys: such that leaves, extensions and branches come to stand behind each other in all ways, and part at high and low nibbles.
func tellingKeys() []string {
	return []string{"", "\x12", "\x12\x34", "\x12\x34\x56\x78", "\x12\x34\x56\x79", "\x12\x35", "\x1a", "\x22", "\x12\x34\x56", "\x12\x35\x9a\xbc\xde\xf0"}
}

// subset tells those of the telling keys whose bits are set, with values of a kind.
func subset(bits int, values func(i int) string) content {
	c := content{}
	for i, key := range tellingKeys() {
		if bits>>i&1 != 0 {
			c[key] = values(i)
		}
	}
	return c
}

// kindsOf values: short ones, with which all nodes stand within their root, ones of some 32 bytes, and both.
func kindsOf() []func(i int) string {
	return []func(i int) string{
		func(i int) string { return string(rune('a' + i)) },
		func(i int) string { return strings.Repeat(string(rune('a'+i)), 27+i) },
		func(i int) string { return strings.Repeat(string(rune('a'+i)), 1+i%3*i*4) },
	}
}

// P12.1 to P12.7, P12.10: each set of telling keys; and each one that comes of it by a key more, and by a key fewer, in a copy of which the first one sees nothing.
func TestSubsets(t *testing.T) {
	keys := tellingKeys()
	absent := []string{"\x12\x34\x56\x78\x9a", "\x12\x30", "\x10", "\x33", "\x12\x34\x56\x70"}
	for kind, values := range kindsOf() {
		for bits := range 1 << len(keys) {
			c := subset(bits, values)
			x := c.filled(t)
			checkTrie(t, x, c, slices.Concat(keys, absent)...)
			if kind > 0 && bits%11 != 0 {
				continue
			}
			for i, key := range keys {
				y, other := x.Copy(), subset(bits^1<<i, values)
				if bits>>i&1 == 0 {
					mustPut(t, y, key, values(i))
				} else if !y.Delete([]byte(key)) {
					t.Errorf("Delete(%x) of %x = false", key, c)
				}
				checkMap(t, y, other, keys...)
				checkRoot(t, y, other)
				checkNodes(t, y, other, key)
				checkMap(t, x, c, key)
			}
			checkRoot(t, x, c)
		}
	}
}

// P12.10: keys put in any order, then deleted in any order.
func TestAnyOrder(t *testing.T) {
	row := chance.Row(121)
	keys := tellingKeys()
	full := subset(1<<len(keys)-1, kindsOf()[2])
	for range 300 {
		x, c := trie.New(), content{}
		for _, i := range anyOrder(&row, len(keys)) {
			mustPut(t, x, keys[i], full[keys[i]])
			c[keys[i]] = full[keys[i]]
			checkRoot(t, x, c)
		}
		checkTrie(t, x, c)
		for _, i := range anyOrder(&row, len(keys)) {
			x.Delete([]byte(keys[i]))
			delete(c, keys[i])
			checkRoot(t, x, c)
		}
		checkTrie(t, x, content{}, keys...)
	}
}

// anyOrder tells the numbers 0 to n-1 in some order.
func anyOrder(row *chance.Row, n int) []int {
	order := make([]int, n)
	for i := range order {
		at := row.Below(i + 1)
		order[i] = order[at]
		order[at] = i
	}
	return order
}

// P12.1 to P12.5, P12.10: puts and deletes by chance, with keys that are met again and again.
func TestChanges(t *testing.T) {
	row := chance.Row(122)
	counts := map[string]int{}
	for range 40 {
		x, c := trie.New(), content{}
		most := 1 + row.Below(60)
		for range 100 {
			key := anyKey(&row)
			_, there := c[key]
			if row.Below(most+len(c)) < most {
				value := anyValue(&row)
				mustPut(t, x, key, value)
				c[key] = value
				counts["put"]++
			} else {
				if got := x.Delete([]byte(key)); got != there {
					t.Errorf("Delete(%x) = %t, want %t", key, got, there)
				}
				delete(c, key)
				if there {
					counts["deleted"]++
				}
			}
			checkRoot(t, x, c)
			checkNodes(t, x, c, anyKey(&row))
		}
		checkTrie(t, x, c, key4(&row)...)
	}
	if counts["put"] < 1000 || counts["deleted"] < 300 {
		t.Errorf("so many of each: %v", counts)
	}
}

// key4 tells four keys, there or not.
func key4(row *chance.Row) []string {
	return []string{anyKey(row), anyKey(row), anyKey(row), anyKey(row)}
}

// P12.1 to P12.5: the deepest trie: all that begins a key of MaxKey bytes, each a key of its own; emptied from both ends.
func TestDeepest(t *testing.T) {
	row := chance.Row(123)
	whole := string(row.Text(api.MaxKey))
	for _, value := range []string{"v", long} {
		c := content{}
		for n := range len(whole) + 1 {
			c[whole[:n]] = value
		}
		x := c.filled(t)
		checkMap(t, x, c)
		checkRoot(t, x, c)
		if n := checkNodes(t, x, c, whole); n < 100 {
			t.Errorf("%d nodes are on the longest way", n)
		}
		checkNodes(t, x, c, whole[:31])
		for n := range len(whole) / 2 {
			for _, key := range []string{whole[:n], whole[:len(whole)-n]} {
				if !x.Delete([]byte(key)) {
					t.Errorf("Delete of %d bytes = false", len(key))
				}
				delete(c, key)
			}
			checkRoot(t, x, c)
		}
		checkTrie(t, x, c)
	}
}

// P12.1, P12.10: each nibble's place in a branch, of one that parts at the key's front, and at its end.
func TestEachNibble(t *testing.T) {
	for v := range 16 {
		c := content{string([]byte{byte(v << 4)}): "high", string([]byte{byte((v+1)%16<<4 | 3)}): "other", string([]byte{0x77, byte(v)}): "low", string([]byte{0x77, byte((v + 5) % 16)}): "next"}
		checkTrie(t, c.filled(t), c, "\x77", "")
	}
	all := content{}
	for v := range 256 {
		all[string([]byte{byte(v)})] = string([]byte{byte(255 - v)})
	}
	x := all.filled(t)
	checkTrie(t, x, all)
	for v := range 256 {
		if v%16 != 5 {
			key := string([]byte{byte(v)})
			x.Delete([]byte(key))
			delete(all, key)
		}
	}
	checkTrie(t, x, all)
}

// P12.3: nodes of 31 bytes stand within another one, nodes of 32 don't: leaves, branches and extensions of all lengths around these.
func TestLengthsAround32(t *testing.T) {
	lengths := map[int]int{}
	for n := 1; n < 40; n++ {
		value := strings.Repeat("v", n)
		for _, c := range []content{
			{"\x11": value, "\x21": "w"},                                // a leaf in a branch
			{"\x11\x22\x33": value, "\x11\x23\x33": "w"},                // a leaf, an odd path
			{"\x11": value, "\x12": "w", "\x21": "x"},                   // a branch in a branch
			{"\x11\x22": value, "\x11\x22\x10": "w", "\x31": "x"},       // a branch with a value, behind an extension
			{"\x11\x22\x34": value, "\x11\x22\x35": "w", "\x31": "x"},   // an extension in a branch
			{"\x11\x22\x3f": value, "\x11\x22\x30": value, "\x31": "x"}, // the same with two long ones
		} {
			x := c.filled(t)
			checkTrie(t, x, c, "\x11\x22\x36", "\x77")
			for _, k := range c.all().way("112234") {
				lengths[len(modelBytes(k.node()))]++
			}
		}
	}
	for _, n := range []int{30, 31, 32, 33} {
		if lengths[n] == 0 {
			t.Errorf("no node has %d bytes", n)
		}
	}
}

// P12.12, P0.5: a nil trie.
func TestNil(t *testing.T) {
	var x *trie.Trie
	for _, key := range [][]byte{nil, []byte("a"), make([]byte, 65)} {
		for _, value := range [][]byte{nil, []byte("x"), make([]byte, api.MaxInput+1)} {
			if e := x.Put(key, value); e != api.ErrArg {
				t.Errorf("Put = %d", e)
			}
		}
		if value, ok := x.Get(key); len(value) != 0 || ok {
			t.Errorf("Get = %x, %t", value, ok)
		}
		if x.Delete(key) || len(x.Nodes(key)) != 0 {
			t.Error("Delete or Nodes")
		}
	}
	if x.Len() != 0 || x.Root() != (api.Hash{}) || x.Copy() != nil {
		t.Errorf("Len, Root or Copy")
	}
	each := x.Each()
	if each == nil {
		t.Fatal("Each answers no iterator")
	}
	for range each {
		t.Error("Each gives something")
	}
}

// P12.12: a zero value is as good as what New makes.
func TestZero(t *testing.T) {
	var zero trie.Trie
	checkTrie(t, &zero, content{}, "", "a")
	checkTrie(t, zero.Copy(), content{}, "a")
	if zero.Delete([]byte("a")) {
		t.Error("Delete = true")
	}
	c := content{"do": "verb", "dog": "puppy"}
	for key, value := range c {
		mustPut(t, &zero, key, value)
	}
	checkTrie(t, &zero, c, "", "a")
}

// P12.9, P12.3: a trie that is emptied has the root of nothing, and holds nothing.
func TestEmptied(t *testing.T) {
	if got := trie.Empty(); got != hashOf(emptyRoot) || trie.New().Root() != got {
		t.Errorf("Empty = %x", got)
	}
	row := chance.Row(124)
	x := trie.New()
	var keys []string
	for range 500 {
		key := string(row.Text(row.Below(4)))
		mustPut(t, x, key, anyValue(&row))
		keys = append(keys, key)
	}
	for _, key := range keys {
		x.Delete([]byte(key))
	}
	checkTrie(t, x, content{}, keys...)
}
