package trie_test

import (
	"bytes"
	"encoding/hex"
	"fmt"
	"maps"
	"math/big"
	"slices"
	"strings"
	"testing"

	"waybill/api"
	"waybill/chance"
	"waybill/keccak"
	"waybill/trie"
)

// emptyRoot is the Keccak of the byte 80.
const emptyRoot = "56e81f171bcc55a6ff8345e692c0f86e5b48e01b996cadc001622fb5e363b421"

// long is a value of more than 32 bytes.
const long = "a long value of more than thirty-two bytes, for sure"

// unhex reads bytes in hexadecimal digits; blanks between them count for nothing.
func unhex(s string) []byte {
	b, err := hex.DecodeString(strings.ReplaceAll(s, " ", ""))
	if err != nil {
		panic("not digits: " + s)
	}
	return b
}

// hashOf reads a digest.
func hashOf(s string) api.Hash { return api.Hash(unhex(s)) }

// short tells the front of a text, for a fault's telling.
func short(b []byte) []byte { return b[:min(len(b), 500)] }

// content is what a trie holds: a value under each key.
type content map[string]string

// sorted tells the keys, by rising bytes.
func (c content) sorted() []string { return slices.Sorted(maps.Keys(c)) }

// pairs tells the keys with their values, by rising keys.
func (c content) pairs() []api.Pair {
	var list []api.Pair
	for _, key := range c.sorted() {
		list = append(list, api.Pair{Key: []byte(key), Value: []byte(c[key])})
	}
	return list
}

// told writes it for a fault's telling, cut where it is long.
func (c content) told() string {
	var s strings.Builder
	for _, p := range c.pairs() {
		fmt.Fprintf(&s, "[%x: %x, %d bytes]", p.Key, short(p.Value), len(p.Value))
	}
	return string(short([]byte(s.String())))
}

// filled tells a trie that holds this.
func (c content) filled(t *testing.T) *trie.Trie {
	t.Helper()
	x := trie.New()
	for _, p := range c.pairs() {
		mustPut(t, x, string(p.Key), string(p.Value))
	}
	return x
}

func mustPut(t *testing.T, x *trie.Trie, key, value string) {
	t.Helper()
	if e := x.Put([]byte(key), []byte(value)); e != api.OK {
		t.Fatalf("Put(%x, %d bytes) = %d", key, len(value), e)
	}
}

// The model follows the chapter's words: nodes are made of lists of keys, and no trie is kept. A key's row is its text of hexadecimal digits, of which each one is a nibble.

type modelKey struct{ row, value string }

// modelKeys is J and i: some keys, by rising rows, that have their first i nibbles in common.
type modelKeys struct {
	j []modelKey
	i int
}

func (c content) all() modelKeys {
	var k modelKeys
	for _, key := range c.sorted() {
		k.j = append(k.j, modelKey{hex.EncodeToString([]byte(key)), c[key]})
	}
	return k
}

// common tells how many nibbles all keys have in common: what the first and the last one have.
func (k modelKeys) common() int {
	first, last := k.j[0].row, k.j[len(k.j)-1].row
	n := 0
	for n < len(first) && n < len(last) && first[n] == last[n] {
		n++
	}
	return n
}

// by tells, at i + 1, the keys whose nibble behind the first i is v.
func (k modelKeys) by(v int) modelKeys {
	digit := "0123456789abcdef"[v]
	some := modelKeys{i: k.i + 1}
	for _, key := range k.j {
		if len(key.row) > k.i && key.row[k.i] == digit {
			some.j = append(some.j, key)
		}
	}
	return some
}

// node tells the node of J at i.
func (k modelKeys) node() api.Item {
	if len(k.j) == 1 {
		return modelList(modelText(modelPack(k.j[0].row[k.i:], true)), modelText([]byte(k.j[0].value)))
	}
	if j := k.common(); j > k.i {
		return modelList(modelText(modelPack(k.j[0].row[k.i:j], false)), modelKeys{k.j, j}.mention())
	}
	var items []api.Item
	for v := range 16 {
		items = append(items, k.by(v).mention())
	}
	value := ""
	for _, key := range k.j {
		if len(key.row) == k.i {
			value = key.value
		}
	}
	return modelList(append(items, modelText([]byte(value)))...)
}

// mention tells the mention of J at i.
func (k modelKeys) mention() api.Item {
	if len(k.j) == 0 {
		return modelText(nil)
	}
	node := k.node()
	b := modelBytes(node)
	if len(b) < 32 {
		return node
	}
	digest := keccak.Sum(b)
	return modelText(digest[:])
}

// way tells the nodes on the way to a row, as the keys and places of which they are the nodes.
func (k modelKeys) way(row string) []modelKeys {
	if len(k.j) == 0 {
		return nil
	}
	list := []modelKeys{k}
	switch j := k.common(); {
	case len(k.j) == 1:
	case j > k.i:
		if strings.HasPrefix(row[k.i:], k.j[0].row[k.i:j]) {
			list = append(list, modelKeys{k.j, j}.way(row)...)
		}
	case len(row) > k.i:
		list = append(list, k.by(strings.IndexByte("0123456789abcdef", row[k.i])).way(row)...)
	}
	return list
}

func (c content) modelRoot() api.Hash {
	if len(c) == 0 {
		return keccak.Sum([]byte{0x80})
	}
	return keccak.Sum(modelBytes(c.all().node()))
}

func (c content) modelNodes(key string) [][]byte {
	if len(key) > 64 {
		return nil
	}
	var list [][]byte
	for i, k := range c.all().way(hex.EncodeToString([]byte(key))) {
		if b := modelBytes(k.node()); i == 0 || len(b) >= 32 {
			list = append(list, b)
		}
	}
	return list
}

func modelText(b []byte) api.Item          { return api.Item{Data: b} }
func modelList(items ...api.Item) api.Item { return api.Item{List: true, Items: items} }

// modelPack packs a row of digits.
func modelPack(row string, leaf bool) []byte {
	heads := [2]string{"00", "1"}
	if leaf {
		heads = [2]string{"20", "3"}
	}
	return unhex(heads[len(row)%2] + row)
}

// modelBytes tells an item's bytes as chapter 7 has them, without its limits.
func modelBytes(it api.Item) []byte {
	if !it.List {
		if len(it.Data) == 1 && it.Data[0] < 0x80 {
			return it.Data
		}
		return slices.Concat(modelHead(0x80, len(it.Data)), it.Data)
	}
	var held []byte
	for _, inner := range it.Items {
		held = append(held, modelBytes(inner)...)
	}
	return slices.Concat(modelHead(0xc0, len(held)), held)
}

func modelHead(first byte, n int) []byte {
	if n <= 55 {
		return []byte{first + byte(n)}
	}
	length := big.NewInt(int64(n)).Bytes()
	return append([]byte{first + 55 + byte(len(length))}, length...)
}

// checkTrie holds all that can be seen of a trie against what it ought to hold; the keys that are asked for may be there or not.
func checkTrie(t *testing.T, x *trie.Trie, c content, asked ...string) {
	t.Helper()
	checkMap(t, x, c, asked...)
	checkRoot(t, x, c)
	for _, key := range slices.Concat(c.sorted(), asked) {
		checkNodes(t, x, c, key)
	}
}

// checkRoot holds the root, and that of the pairs, against the model.
func checkRoot(t *testing.T, x *trie.Trie, c content) {
	t.Helper()
	want := c.modelRoot()
	if got := x.Root(); got != want {
		t.Errorf("the root of %s = %x, want %x", c.told(), got, want)
	}
	if got, e := trie.Root(c.pairs()); got != want || e != api.OK {
		t.Errorf("Root of the pairs %s = %x, %d, want %x", c.told(), got, e, want)
	}
}

// checkMap holds Len, Get and Each against what the trie ought to hold.
func checkMap(t *testing.T, x *trie.Trie, c content, asked ...string) {
	t.Helper()
	if x.Len() != len(c) {
		t.Errorf("Len = %d, want %d", x.Len(), len(c))
	}
	for _, key := range slices.Concat(c.sorted(), asked) {
		want, there := c[key]
		if got, ok := x.Get([]byte(key)); string(got) != want || ok != there {
			t.Errorf("Get(%x) = %x, %t, want %x, %t", key, short(got), ok, short([]byte(want)), there)
		}
	}
	checkEach(t, x, c)
}

func checkEach(t *testing.T, x *trie.Trie, c content) {
	t.Helper()
	var keys []string
	for key, value := range x.Each() {
		if string(value) != c[string(key)] {
			t.Errorf("Each gives %x under %x, want %x", short(value), key, short([]byte(c[string(key)])))
		}
		keys = append(keys, string(key))
	}
	if want := c.sorted(); !slices.Equal(keys, want) {
		t.Errorf("Each gives the keys %x, want %x", keys, want)
	}
}

// checkNodes holds Nodes of a key against the model, and tells how many there are.
func checkNodes(t *testing.T, x *trie.Trie, c content, key string) int {
	t.Helper()
	want := c.modelNodes(key)
	if got := x.Nodes([]byte(key)); !slices.EqualFunc(got, want, bytes.Equal) {
		t.Errorf("Nodes(%x) of %s = %s, want %s", key, c.told(), toldNodes(got), toldNodes(want))
	}
	return len(want)
}

// toldNodes writes nodes for a fault's telling.
func toldNodes(nodes [][]byte) string {
	var s strings.Builder
	for _, b := range nodes {
		fmt.Fprintf(&s, "[%x, %d bytes]", short(b), len(b))
	}
	return s.String()
}

// anyKey tells a key of few kinds of bytes, so that many begin alike and many are met again.
func anyKey(row *chance.Row) string {
	b := make([]byte, row.Below(5))
	for i := range b {
		b[i] = [...]byte{0x00, 0x01, 0x10, 0x11, 0xf0, 0xff}[row.Below(6)]
	}
	return string(b)
}

// anyValue tells a value, most often one with which nodes have some 32 bytes.
func anyValue(row *chance.Row) string {
	n := 1 + row.Below(3)
	switch row.Below(4) {
	case 0:
		n = 20 + row.Below(20)
	case 1:
		n = 1 + row.Below(200)
	}
	return string(row.Text(n))
}

// The helpers themselves: an error in them would hide one in the program.
func TestHelpers(t *testing.T) {
	for _, x := range []struct {
		item api.Item
		want string
	}{
		{modelText(nil), "80"}, {modelText([]byte{0x7f}), "7f"}, {modelText([]byte{0x80}), "81 80"}, {modelText([]byte("dog")), "83 646f67"}, {modelList(), "c0"},
		{modelList(modelText([]byte("cat")), modelText([]byte("dog"))), "c8 83636174 83646f67"}, {modelText(make([]byte, 56)), "b8 38" + strings.Repeat("00", 56)}, {modelList(modelText(make([]byte, 255))), "f9 01 01 b8 ff" + strings.Repeat("00", 255)},
	} {
		if got := modelBytes(x.item); !bytes.Equal(got, unhex(x.want)) {
			t.Errorf("modelBytes: %x, want %s", got, x.want)
		}
	}
	if !bytes.Equal(modelPack("123", true), unhex("3123")) || !bytes.Equal(modelPack("12", true), unhex("2012")) || !bytes.Equal(modelPack("1", false), unhex("11")) || !bytes.Equal(modelPack("", false), unhex("00")) {
		t.Error("modelPack")
	}
	if got := (content{}).modelRoot(); got != hashOf(emptyRoot) {
		t.Errorf("the model's root of nothing: %x", got)
	}
}
