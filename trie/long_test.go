package trie_test

import (
	"bytes"
	"strings"
	"testing"

	"waybill/api"
	"waybill/trie"
)

// longest is the value of which the long ones are the beginnings.
var longest = strings.Repeat("waybill!", api.MaxInput/8)

// P12.11, P12.1: values of as many bytes as go, and of those where a head grows or where rlp's limit is met: in a leaf, whose list has 1 byte and a head more, and in a branch, with 18 bytes and a head more.
func TestLongValues(t *testing.T) {
	near := []int{55, 56, 255, 256, 65535, 65536}
	for _, below := range []int{27, 26, 25, 24, 23, 22, 21, 10, 9, 8, 7, 6, 5, 4, 3, 2, 1, 0} {
		near = append(near, api.MaxInput-below)
	}
	for _, n := range near {
		value := longest[:n]
		checkLongNodes(t, content{"": value}, "")
		checkLongNodes(t, content{"": value, "\x10": "y"}, "")
	}
	checkTrie(t, content{"": longest}.filled(t), content{"": longest}, "a")
	checkTrie(t, content{"a": longest, "ab": "y"}.filled(t), content{"a": longest, "ab": "y"}, "b")
}

// checkLongNodes holds the nodes on the way to a key against the model and against the bound, and tells the longest one's length.
func checkLongNodes(t *testing.T, c content, key string) (most int) {
	t.Helper()
	want := c.modelNodes(key)
	got := c.filled(t).Nodes([]byte(key))
	if len(got) != len(want) {
		t.Fatalf("%d nodes, want %d", len(got), len(want))
	}
	for i, b := range got {
		if !bytes.Equal(b, want[i]) {
			t.Errorf("node %d of %d bytes: %x.., want %d bytes: %x..", i, len(b), short(b), len(want[i]), short(want[i]))
		}
		if len(b) > api.MaxInput+1024 {
			t.Errorf("node %d has %d bytes", i, len(b))
		}
		most = max(most, len(b))
	}
	return most
}

// P12.11: the longest leaf, of the longest key; the longest branch, all of whose sixteen mentions are digests.
func TestLongestNodes(t *testing.T) {
	key := strings.Repeat("k", api.MaxKey)
	if most := checkLongNodes(t, content{key: longest}, key); most != api.MaxInput+5+67+5 {
		t.Errorf("the longest leaf has %d bytes", most)
	}
	c := content{"": longest}
	for v := range 16 {
		c[string([]byte{byte(v << 4)})] = long
	}
	if most := checkLongNodes(t, c, "\x10"); most != api.MaxInput+5+16*33+5 {
		t.Errorf("the longest branch has %d bytes", most)
	}
}

// P12.7, P12.8: pairs and items of as many bytes as go.
func TestLongPairs(t *testing.T) {
	c := content{"a": longest, "b": longest[1:]}
	if got, e := trie.Root(c.pairs()); got != c.modelRoot() || e != api.OK {
		t.Errorf("Root = %x, %d", got, e)
	}
	items := [][]byte{[]byte(longest), []byte(longest[1:])}
	if got, e := trie.ListRoot(items); got != listContent(items).modelRoot() || e != api.OK {
		t.Errorf("ListRoot = %x, %d", got, e)
	}
}
