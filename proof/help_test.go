package proof_test

import (
	"bytes"
	"encoding/hex"
	"fmt"
	"math/big"
	"slices"
	"strings"
	"testing"

	"waybill/api"
	"waybill/chance"
	"waybill/keccak"
	"waybill/proof"
	"waybill/trie"
)

// emptyRoot is the Keccak of the byte 80.
const emptyRoot = "56e81f171bcc55a6ff8345e692c0f86e5b48e01b996cadc001622fb5e363b421"

// long is a value of more than 32 bytes.
const long = "a long value of more than thirty-two bytes, for sure"

// unhex reads bytes in hexadecimal digits; blanks between them count for nothing.
func unhex(s string) []byte {
	b, err := hex.DecodeString(strings.ReplaceAll(s, " ", ""))
	if err != nil {
		panic("not digits: " + s)
	}
	return b
}

// hashOf reads a digest.
func hashOf(s string) api.Hash { return api.Hash(unhex(s)) }

// told writes nodes for a fault's telling, cut where they are long.
func told(nodes [][]byte) string {
	var s strings.Builder
	for _, b := range nodes {
		fmt.Fprintf(&s, "[%x, %d bytes]", b[:min(len(b), 200)], len(b))
	}
	return s.String()
}

// list tells several texts as a list.
func list(texts ...string) [][]byte {
	var all [][]byte
	for _, text := range texts {
		all = append(all, []byte(text))
	}
	return all
}

func mustPut(t *testing.T, x *trie.Trie, key, value string) {
	t.Helper()
	if e := x.Put([]byte(key), []byte(value)); e != api.OK {
		t.Fatalf("Put(%x, %d bytes) = %d", key, len(value), e)
	}
}

func mustProve(t *testing.T, x *trie.Trie, key string) [][]byte {
	t.Helper()
	nodes, e := proof.Prove(x, []byte(key))
	if e != api.OK {
		t.Fatalf("Prove(%x) = %d", key, e)
	}
	return nodes
}

// pairsOf tells a trie of keys and values that follow one another.
func pairsOf(t *testing.T, texts ...string) *trie.Trie {
	t.Helper()
	x := trie.New()
	for i := 0; i < len(texts); i += 2 {
		mustPut(t, x, texts[i], texts[i+1])
	}
	return x
}

// anyKey tells a key of few kinds of bytes, so that many begin alike and many are met again.
func anyKey(row *chance.Row) string {
	b := make([]byte, row.Below(5))
	for i := range b {
		b[i] = [...]byte{0x00, 0x01, 0x10, 0x11, 0xf0, 0xff}[row.Below(6)]
	}
	return string(b)
}

// anyValue tells a value, most often one with which nodes have some 32 bytes.
func anyValue(row *chance.Row) string {
	n := 1 + row.Below(3)
	switch row.Below(4) {
	case 0:
		n = 20 + row.Below(20)
	case 1:
		n = 1 + row.Below(200)
	}
	return string(row.Text(n))
}

// anyTrie tells a trie of up to so many keys, and these.
func anyTrie(t *testing.T, row *chance.Row, most int) (*trie.Trie, []string) {
	t.Helper()
	x := trie.New()
	var keys []string
	for range row.Below(most + 1) {
		key := anyKey(row)
		mustPut(t, x, key, anyValue(row))
		keys = append(keys, key)
	}
	return x, keys
}

// The model follows the chapter's words. It reads items loosely and holds what it writes of them against the bytes: so each item has one form. Rows of nibbles are texts of hexadecimal digits.

func text(b ...byte) api.Item           { return api.Item{Data: b} }
func listOf(items ...api.Item) api.Item { return api.Item{List: true, Items: items} }

// written tells an item's bytes as chapter 7 has them.
func written(it api.Item) []byte {
	if !it.List {
		if len(it.Data) == 1 && it.Data[0] < 0x80 {
			return it.Data
		}
		return slices.Concat(headOf(0x80, len(it.Data)), it.Data)
	}
	var held []byte
	for _, inner := range it.Items {
		held = append(held, written(inner)...)
	}
	return slices.Concat(headOf(0xc0, len(held)), held)
}

func headOf(first byte, n int) []byte {
	if n <= 55 {
		return []byte{first + byte(n)}
	}
	length := big.NewInt(int64(n)).Bytes()
	return append([]byte{first + 55 + byte(len(length))}, length...)
}

// modelItem tells the item that bytes are; false: they are none.
func modelItem(b []byte) (api.Item, bool) {
	it, rest, ok := loose(b)
	return it, ok && len(rest) == 0 && bytes.Equal(written(it), b)
}

// loose reads an item whose head may have any form.
func loose(b []byte) (it api.Item, rest []byte, ok bool) {
	if len(b) == 0 {
		return it, nil, false
	}
	first := int(b[0])
	if first < 0x80 {
		return text(b[0]), b[1:], true
	}
	it.List = first >= 0xc0
	b = b[1:]
	n := first % 64
	if n > 55 {
		width := n - 55
		if len(b) < width {
			return it, nil, false
		}
		length := new(big.Int).SetBytes(b[:width])
		b = b[width:]
		if length.Cmp(big.NewInt(int64(len(b)))) > 0 {
			return it, nil, false
		}
		n = int(length.Int64())
	}
	if len(b) < n {
		return it, nil, false
	}
	held, rest := b[:n], b[n:]
	if !it.List {
		it.Data = held
		return it, rest, true
	}
	for len(held) > 0 {
		var inner api.Item
		if inner, held, ok = loose(held); !ok {
			return it, nil, false
		}
		it.Items = append(it.Items, inner)
	}
	return it, rest, true
}

// The forms of a node.
const (
	noNode      = ""
	aBranch     = "branch"
	aLeaf       = "leaf"
	anExtension = "extension"
)

// modelForm tells the form of node that an item is.
func modelForm(it api.Item) string {
	switch {
	case it.List && len(it.Items) == 17:
		return modelBranch(it)
	case it.List && len(it.Items) == 2 && !it.Items[0].List:
		return modelPair(it)
	}
	return noNode
}

func modelBranch(it api.Item) string {
	full := 0
	for _, inner := range it.Items {
		if inner.List || len(inner.Data) > 0 {
			full++
		}
	}
	for _, link := range it.Items[:16] {
		if !modelLink(link) {
			return noNode
		}
	}
	if full < 2 || it.Items[16].List {
		return noNode
	}
	return aBranch
}

func modelPair(it api.Item) string {
	second := it.Items[1]
	empty := !second.List && len(second.Data) == 0
	path, last, ok := modelPath(it.Items[0].Data)
	switch {
	case !ok || empty:
	case last && !second.List:
		return aLeaf
	case !last && path != "" && modelLink(second) && (!second.List || modelForm(second) == aBranch):
		return anExtension
	}
	return noNode
}

func modelLink(it api.Item) bool {
	if it.List {
		return len(written(it)) < 32 && modelForm(it) != noNode
	}
	return len(it.Data) == 0 || len(it.Data) == 32
}

// modelPath reads a packed path.
func modelPath(packed []byte) (row string, last, ok bool) {
	digits := hex.EncodeToString(packed)
	switch {
	case strings.HasPrefix(digits, "00"):
		return digits[2:], false, true
	case strings.HasPrefix(digits, "1"):
		return digits[1:], false, true
	case strings.HasPrefix(digits, "20"):
		return digits[2:], true, true
	case strings.HasPrefix(digits, "3"):
		return digits[1:], true, true
	}
	return "", false, false
}

// modelWay is a way: whom it asks, and what it asked for last.
type modelWay struct {
	ask  func(api.Hash) ([]byte, api.Errno)
	last api.Hash
}

func (w *modelWay) of(root api.Hash, key []byte) (string, api.Errno) {
	if root == hashOf(emptyRoot) {
		return "", api.OK
	}
	return w.byHash(root, hex.EncodeToString(key), false)
}

// byHash goes on by a hash; behind tells whether an extension stands ahead of it.
func (w *modelWay) byHash(hash api.Hash, r string, behind bool) (string, api.Errno) {
	w.last = hash
	b, e := w.ask(hash)
	if e != api.OK {
		return "", e
	}
	it, ok := modelItem(b)
	if !ok || modelForm(it) == noNode || behind && modelForm(it) != aBranch {
		return "", api.ErrProofNode
	}
	return w.from(it, r)
}

// from goes on from a node.
func (w *modelWay) from(it api.Item, r string) (string, api.Errno) {
	form := modelForm(it)
	if form == aBranch {
		if r == "" {
			return string(it.Items[16].Data), api.OK
		}
		return w.by(it.Items[strings.IndexByte("0123456789abcdef", r[0])], r[1:], false)
	}
	path, _, _ := modelPath(it.Items[0].Data)
	if form == aLeaf {
		if path == r {
			return string(it.Items[1].Data), api.OK
		}
		return "", api.OK
	}
	if !strings.HasPrefix(r, path) {
		return "", api.OK
	}
	return w.by(it.Items[1], r[len(path):], true)
}

// by goes on by a link.
func (w *modelWay) by(link api.Item, r string, behind bool) (string, api.Errno) {
	switch {
	case link.List:
		return w.from(link, r)
	case len(link.Data) == 0:
		return "", api.OK
	}
	return w.byHash(api.Hash(link.Data), r, behind)
}

func modelGiven(nodes [][]byte, keys ...[]byte) api.Errno {
	for _, key := range keys {
		if len(key) > 64 {
			return api.ErrTrieKey
		}
	}
	if len(bytes.Join(nodes, nil)) > 16777216 {
		return api.ErrLong
	}
	return api.OK
}

func modelVerify(root api.Hash, key []byte, nodes [][]byte) (string, api.Errno) {
	if e := modelGiven(nodes, key); e != api.OK {
		return "", e
	}
	i := 0
	w := modelWay{ask: func(hash api.Hash) ([]byte, api.Errno) {
		if i == len(nodes) {
			return nil, api.ErrProofShort
		}
		i++
		if keccak.Sum(nodes[i-1]) != hash {
			return nil, api.ErrProofHash
		}
		return nodes[i-1], api.OK
	}}
	value, e := w.of(root, key)
	if e == api.OK && i < len(nodes) {
		return "", api.ErrProofRest
	}
	return value, e
}

// inAnyOrder tells whom to ask for nodes that stand anywhere; it marks those that were asked for.
func inAnyOrder(nodes [][]byte, marks []bool) func(api.Hash) ([]byte, api.Errno) {
	return func(hash api.Hash) ([]byte, api.Errno) {
		for i, b := range nodes {
			if keccak.Sum(b) == hash {
				marks[i] = true
				return b, api.OK
			}
		}
		return nil, api.ErrProofShort
	}
}

func modelCheck(root api.Hash, keys [][]byte, nodes [][]byte) ([]string, api.Errno) {
	if e := modelGiven(nodes, keys...); e != api.OK {
		return nil, e
	}
	for i, b := range nodes {
		for _, other := range nodes[:i] {
			if bytes.Equal(b, other) {
				return nil, api.ErrProofRest
			}
		}
	}
	marks := make([]bool, len(nodes))
	w := modelWay{ask: inAnyOrder(nodes, marks)}
	var values []string
	for _, key := range keys {
		value, e := w.of(root, key)
		if e != api.OK {
			return nil, e
		}
		values = append(values, value)
	}
	if slices.Contains(marks, false) {
		return nil, api.ErrProofRest
	}
	return values, api.OK
}

func modelNeed(root api.Hash, key []byte, nodes [][]byte) (api.Hash, bool, api.Errno) {
	if e := modelGiven(nodes, key); e != api.OK {
		return api.Hash{}, false, e
	}
	w := modelWay{ask: inAnyOrder(nodes, make([]bool, len(nodes)))}
	_, e := w.of(root, key)
	if e == api.ErrProofShort {
		return w.last, true, api.OK
	}
	return api.Hash{}, false, e
}

// checkVerify holds Verify against the model, and tells the error.
func checkVerify(t *testing.T, root api.Hash, key []byte, nodes [][]byte) api.Errno {
	t.Helper()
	want, e := modelVerify(root, key, nodes)
	value, there, got := proof.Verify(root, key, nodes)
	if string(value) != want || there != (want != "") || got != e {
		t.Errorf("Verify(%x, %x, %s) = %x, %t, %d, want %x, %d", root, key, told(nodes), value, there, got, want, e)
	}
	return e
}

// checkCheck holds Check against the model, and tells the error.
func checkCheck(t *testing.T, root api.Hash, keys, nodes [][]byte) api.Errno {
	t.Helper()
	want, e := modelCheck(root, keys, nodes)
	values, there, got := proof.Check(root, keys, nodes)
	good := got == e && len(values) == len(want) && len(there) == len(want)
	for i := range want {
		good = good && string(values[i]) == want[i] && there[i] == (want[i] != "")
	}
	if !good {
		t.Errorf("Check(%x, %x, %s) = %x, %t, %d, want %x, %d", root, keys, told(nodes), values, there, got, want, e)
	}
	return e
}

// checkNeed holds Need against the model, and tells whether something is needed, and the error.
func checkNeed(t *testing.T, root api.Hash, key []byte, nodes [][]byte) (bool, api.Errno) {
	t.Helper()
	want, needs, e := modelNeed(root, key, nodes)
	if hash, ok, got := proof.Need(root, key, nodes); hash != want || ok != needs || got != e {
		t.Errorf("Need(%x, %x, %s) = %x, %t, %d, want %x, %t, %d", root, key, told(nodes), hash, ok, got, want, needs, e)
	}
	return needs, e
}

// The helpers themselves: an error in them would hide one in the program.
func TestHelpers(t *testing.T) {
	for digits, want := range map[string]string{
		"c2 20 78": aLeaf, "c5 83 20 12 34 76": aLeaf, "c2 20 80": noNode, "c2 40 78": noNode, "c2 21 78": noNode, "c3 20 78 78": noNode, "78": noNode, "c0": noNode,
		"e2 10 a0" + emptyRoot: anExtension, "e2 00 a0" + emptyRoot: noNode, "d7 16 d5 80 c22078 c22079 8080808080808080808080808080": anExtension,
		"d5 80 c22078 c22079 8080808080808080808080808080": aBranch, "d3 80 c22078 80 8080808080808080808080808080": noNode,
	} {
		it, ok := modelItem(unhex(digits))
		if got := modelForm(it); !ok || got != want {
			t.Errorf("the form of %s: %q, want %q", digits, got, want)
		}
	}
	for _, digits := range []string{"", "81", "81 05", "80 00", "b8 01 80", "b9 00 38" + strings.Repeat("61", 56), "bf ffffffffffffffff", "c1 81", "c1", "c2 81 05", "f8 01 80", "c180 00"} {
		if _, ok := modelItem(unhex(digits)); ok {
			t.Errorf("%s is taken for an item", digits)
		}
	}
	for _, digits := range []string{"80", "7f", "81 80", "83 646f67", "c0", "c8 83636174 83646f67", "b8 38" + strings.Repeat("00", 56), "c7 c0 c1c0 c3c0c1c0"} {
		if _, ok := modelItem(unhex(digits)); !ok {
			t.Errorf("%s is not taken for an item", digits)
		}
	}
}
