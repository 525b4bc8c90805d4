package trie_test

import (
	"bytes"
	"slices"
	"strings"
	"testing"

	"waybill/api"
	"waybill/chance"
	"waybill/keccak"
	"waybill/rlp"
	"waybill/trie"
)

// P12.5: the chapter's fifth example, byte by byte.
func TestExampleOfNodes(t *testing.T) {
	c := content{"\x12\x34": long, "\x12\x35": "z"}
	x := c.filled(t)
	leaf := slices.Concat(unhex("f6 20 b4"), []byte(long)) // the path that is left has no nibble
	digest := keccak.Sum(leaf)
	branch := slices.Concat(unhex("f3 80808080 a0"), digest[:], unhex("c2207a 80808080808080808080 80"))
	digest = keccak.Sum(branch)
	extension := slices.Concat(unhex("e4 82 11 23 a0"), digest[:])
	for key, want := range map[string][][]byte{"\x12\x34": {extension, branch, leaf}, "\x12\x35": {extension, branch}, "\x77": {extension}, "\x12": {extension}, "": {extension}, "\x12\x36": {extension, branch}, "\x12\x34\x56": {extension, branch, leaf}, "\x12\x35\x00": {extension, branch}} {
		if got := x.Nodes([]byte(key)); !slices.EqualFunc(got, want, bytes.Equal) {
			t.Errorf("Nodes(%x) = %x, want %x", key, got, want)
		}
	}
	if x.Root() != hashOf("3bc1bb1a1fdb463301be49c0e19e8b6a197dca11c318eab94c07ef0a4fc0a366") {
		t.Errorf("the root = %x", x.Root())
	}
}

// P12.5: a first node of fewer than 32 bytes is told; one that stands within it is not.
func TestShortNodes(t *testing.T) {
	c := content{"a": "x"}
	x := c.filled(t)
	for _, key := range []string{"", "a", "q", "ab"} {
		if got := x.Nodes([]byte(key)); len(got) != 1 || !bytes.Equal(got[0], unhex("c4 82 20 61 78")) {
			t.Errorf("Nodes(%q) = %x", key, got)
		}
	}
	c = content{"a": "x", "b": "y"}
	x = c.filled(t)
	for _, key := range []string{"a", "b", "c", "q", ""} {
		if got := x.Nodes([]byte(key)); len(got) != 1 || !bytes.Equal(got[0], unhex("d7 16 d5 80 c22078 c22079 8080808080808080808080808080")) {
			t.Errorf("Nodes(%q) = %x", key, got)
		}
	}
}

// P12.5: nothing of a trie without keys; a key of MaxKey bytes is taken, one byte more is not.
func TestNoNodes(t *testing.T) {
	for _, key := range []string{"", "a", strings.Repeat("a", 64), strings.Repeat("a", 65)} {
		if got := trie.New().Nodes([]byte(key)); len(got) != 0 {
			t.Errorf("Nodes(%q) of nothing = %x", key, got)
		}
	}
	most := strings.Repeat("a", api.MaxKey)
	x := content{"a": long, "b": long, most: long}.filled(t)
	if got := x.Nodes([]byte(most)); len(got) < 2 {
		t.Errorf("Nodes of MaxKey bytes: %d", len(got))
	}
	for _, n := range []int{1, 2, 1000} {
		if got := x.Nodes([]byte(most + strings.Repeat("a", n))); len(got) != 0 {
			t.Errorf("Nodes of %d bytes: %x", api.MaxKey+n, got)
		}
	}
}

// P12.5, P12.10: of tries by chance; each node is mentioned by its Keccak in the one ahead of it, and the root is that of the first one.
func TestNodesByChance(t *testing.T) {
	row := chance.Row(127)
	counts := map[int]int{}
	for range 60 {
		x, c := trie.New(), content{}
		for range row.Below(50) {
			key, value := anyKey(&row), anyValue(&row)
			mustPut(t, x, key, value)
			c[key] = value
		}
		for range 20 {
			key := anyKey(&row)
			counts[checkNodes(t, x, c, key)]++
			checkChain(t, x, key)
		}
	}
	for _, n := range []int{0, 1, 2, 3, 4} {
		if counts[n] == 0 {
			t.Errorf("no way has %d nodes", n)
		}
	}
}

// checkChain looks whether the nodes hang together, and are items.
func checkChain(t *testing.T, x *trie.Trie, key string) {
	t.Helper()
	root := x.Root()
	ahead := root[:]
	for i, b := range x.Nodes([]byte(key)) {
		digest := keccak.Sum(b)
		if !bytes.Contains(ahead, digest[:]) {
			t.Errorf("node %d on the way to %x is not mentioned ahead of it", i, key)
		}
		if it, e := rlp.Decode(b); e != api.OK || !it.List || len(it.Items) != 2 && len(it.Items) != 17 {
			t.Errorf("node %d on the way to %x is none: %x, %d", i, key, b, e)
		}
		ahead = b
	}
}

// P12.10: tries that came to hold the same by other ways have the same nodes.
func TestSameNodes(t *testing.T) {
	row := chance.Row(128)
	for range 20 {
		x, y, c := trie.New(), trie.New(), content{}
		var gone []string
		for range 40 {
			key, value, other := anyKey(&row), anyValue(&row), anyKey(&row)
			c[key] = value
			mustPut(t, x, key, value)
			mustPut(t, y, key, "other")
			mustPut(t, y, other, long)
			gone = append(gone, other)
		}
		for _, key := range gone {
			y.Delete([]byte(key))
		}
		for _, p := range slices.Backward(c.pairs()) {
			mustPut(t, y, string(p.Key), string(p.Value))
		}
		if x.Root() != y.Root() || x.Len() != y.Len() {
			t.Errorf("the roots of %x: %x, %x", c, x.Root(), y.Root())
		}
		for _, key := range slices.Concat(c.sorted(), gone, []string{"\x55", "\x00\x00\x00\x00\x00"}) {
			if a, b := x.Nodes([]byte(key)), y.Nodes([]byte(key)); !slices.EqualFunc(a, b, bytes.Equal) {
				t.Errorf("Nodes(%x) of %x: %x, %x", key, c, a, b)
			}
		}
	}
}
