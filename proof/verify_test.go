package proof_test

import (
	"bytes"
	"slices"
	"strings"
	"testing"

	"waybill/api"
	"waybill/keccak"
	"waybill/proof"
	"waybill/trie"
)

// verified is a call of Verify and what it ought to answer; a value of no bytes: nothing is there.
type verified struct {
	name  string
	root  api.Hash
	key   string
	nodes [][]byte
	value string
	e     api.Errno
}

func (v verified) check(t *testing.T) {
	t.Helper()
	value, there, e := proof.Verify(v.root, []byte(v.key), v.nodes)
	if string(value) != v.value || there != (v.value != "") || e != v.e {
		t.Errorf("%s: Verify of %x = %x, %t, %d, want %x, %d", v.name, v.key, value[:min(len(value), 200)], there, e, v.value[:min(len(v.value), 200)], v.e)
	}
	if want, e := modelVerify(v.root, []byte(v.key), v.nodes); want != v.value || e != v.e {
		t.Errorf("%s: the model says otherwise: %d", v.name, e)
	}
}

// P13.2: the chapter's first two examples.
func TestExamples(t *testing.T) {
	node := unhex("c5 83 20 12 34 76")
	root := keccak.Sum(node)
	for _, v := range []verified{
		{"no trie", hashOf(emptyRoot), "\x12", nil, "", api.OK},
		{"no trie, no key", hashOf(emptyRoot), "", [][]byte{}, "", api.OK},
		{"no trie, a node", hashOf(emptyRoot), "\x12", [][]byte{node}, "", api.ErrProofRest},
		{"no trie, its text", hashOf(emptyRoot), "\x12", [][]byte{{0x80}}, "", api.ErrProofRest},
		{"no trie, a node without bytes", hashOf(emptyRoot), "\x12", [][]byte{nil}, "", api.ErrProofRest},
		{"its key", root, "\x12\x34", [][]byte{node}, "v", api.OK},
		{"another key", root, "\x12\x35", [][]byte{node}, "", api.OK},
		{"a shorter key", root, "\x12", [][]byte{node}, "", api.OK},
		{"a longer key", root, "\x12\x34\x00", [][]byte{node}, "", api.OK},
		{"no key", root, "", [][]byte{node}, "", api.OK},
		{"no nodes", root, "\x12\x34", nil, "", api.ErrProofShort},
		{"another node", root, "\x12\x34", [][]byte{unhex("c5 83 20 12 34 77")}, "", api.ErrProofHash},
		{"a node without bytes", root, "\x12\x34", [][]byte{{}}, "", api.ErrProofHash},
		{"one more", root, "\x12\x34", [][]byte{node, unhex("c5 83 20 12 34 77")}, "", api.ErrProofRest},
		{"the same again", root, "\x12\x34", [][]byte{node, node}, "", api.ErrProofRest},
		{"one more without bytes", root, "\x12\x34", [][]byte{node, nil}, "", api.ErrProofRest},
		{"one ahead", root, "\x12\x34", [][]byte{unhex("c5 83 20 12 34 77"), node}, "", api.ErrProofHash},
		{"another root", api.Hash{}, "\x12\x34", [][]byte{node}, "", api.ErrProofHash},
		{"another root, no nodes", api.Hash{}, "\x12\x34", nil, "", api.ErrProofShort},
	} {
		v.check(t)
	}
}

// The nodes of chapter 12's fifth example.
var (
	longLeaf = slices.Concat(unhex("f6 20 b4"), []byte(long))
	fork     = func() []byte {
		digest := keccak.Sum(longLeaf)
		return slices.Concat(unhex("f3 80808080 a0"), digest[:], unhex("c2207a 80808080808080808080 80"))
	}()
	stem = func() []byte {
		digest := keccak.Sum(fork)
		return slices.Concat(unhex("e4 82 11 23 a0"), digest[:])
	}()
	stemRoot = hashOf("3bc1bb1a1fdb463301be49c0e19e8b6a197dca11c318eab94c07ef0a4fc0a366")
)

// P13.2: a way through an extension, a branch and a leaf, told by bytes that are written out.
func TestWayOfThree(t *testing.T) {
	for _, v := range []verified{
		{"the long one", stemRoot, "\x12\x34", [][]byte{stem, fork, longLeaf}, long, api.OK},
		{"the one within", stemRoot, "\x12\x35", [][]byte{stem, fork}, "z", api.OK},
		{"one with a node too many", stemRoot, "\x12\x35", [][]byte{stem, fork, longLeaf}, "", api.ErrProofRest},
		{"an empty link", stemRoot, "\x12\x36", [][]byte{stem, fork}, "", api.OK},
		{"beside the extension", stemRoot, "\x77", [][]byte{stem}, "", api.OK},
		{"it ends in the extension", stemRoot, "\x12", [][]byte{stem}, "", api.OK},
		{"no key", stemRoot, "", [][]byte{stem}, "", api.OK},
		{"behind the leaf", stemRoot, "\x12\x34\x56", [][]byte{stem, fork, longLeaf}, "", api.OK},
		{"behind the one within", stemRoot, "\x12\x35\x00", [][]byte{stem, fork}, "", api.OK},
		{"no nodes", stemRoot, "\x12\x34", nil, "", api.ErrProofShort},
		{"one node", stemRoot, "\x12\x34", [][]byte{stem}, "", api.ErrProofShort},
		{"two nodes", stemRoot, "\x12\x34", [][]byte{stem, fork}, "", api.ErrProofShort},
		{"the second left out", stemRoot, "\x12\x34", [][]byte{stem, longLeaf}, "", api.ErrProofHash},
		{"the first left out", stemRoot, "\x12\x34", [][]byte{fork, longLeaf}, "", api.ErrProofHash},
		{"in another order", stemRoot, "\x12\x34", [][]byte{stem, longLeaf, fork}, "", api.ErrProofHash},
		{"the first one twice", stemRoot, "\x12\x34", [][]byte{stem, stem, fork, longLeaf}, "", api.ErrProofHash},
		{"the last one twice", stemRoot, "\x12\x34", [][]byte{stem, fork, longLeaf, longLeaf}, "", api.ErrProofRest},
	} {
		v.check(t)
	}
}

// branchOf tells a branch whose first things are these.
func branchOf(items ...api.Item) api.Item {
	for len(items) < 17 {
		items = append(items, text())
	}
	return listOf(items...)
}

func hashText() api.Item { return text(bytes.Repeat([]byte{7}, 32)...) }

// P13.2, examples 3 and 4: what is a node and what is none, asked with the key 00.
func TestForms(t *testing.T) {
	tiny := listOf(text(0x20), text(1)) // a leaf
	valued := func(value, link api.Item) api.Item {
		it := branchOf(text(), link)
		it.Items[16] = value
		return it
	}
	for _, c := range []struct {
		name string
		it   api.Item
		e    api.Errno
	}{
		{"a leaf", tiny, api.OK},
		{"a leaf with an empty value", listOf(text(0x20), text()), api.ErrProofNode},
		{"a leaf with a list as its value", listOf(text(0x20), listOf()), api.ErrProofNode},
		{"a leaf with a leaf as its value", listOf(text(0x20), tiny), api.ErrProofNode},
		{"a leaf with a value of 32 bytes", listOf(text(0x20), hashText()), api.OK},
		{"a leaf of a long path", listOf(text(append([]byte{0x20}, make([]byte, 200)...)...), text(1)), api.OK},
		{"a path without bytes", listOf(text(), text(1)), api.ErrProofNode},
		{"a path that begins with 40", listOf(text(0x40), text(1)), api.ErrProofNode},
		{"a path that begins with f0", listOf(text(0xf0), text(1)), api.ErrProofNode},
		{"an even leaf's path with a nibble", listOf(text(0x21), text(1)), api.ErrProofNode},
		{"an even path with a nibble", listOf(text(0x01, 0x00), hashText()), api.ErrProofNode},
		{"a list as the path", listOf(listOf(), text(1)), api.ErrProofNode},
		{"a list with a path as the path", listOf(listOf(text(0x20)), text(1)), api.ErrProofNode},
		{"an extension", listOf(text(0x10), hashText()), api.ErrProofShort},
		{"an extension of no nibbles", listOf(text(0x00), hashText()), api.ErrProofNode},
		{"an extension of no nibbles to a branch within", listOf(text(0x00), branchOf(tiny, tiny)), api.ErrProofNode},
		{"an extension to nothing", listOf(text(0x10), text()), api.ErrProofNode},
		{"an extension to 31 bytes", listOf(text(0x10), text(make([]byte, 31)...)), api.ErrProofNode},
		{"an extension to 33 bytes", listOf(text(0x10), text(make([]byte, 33)...)), api.ErrProofNode},
		{"an extension to one byte", listOf(text(0x10), text(1)), api.ErrProofNode},
		{"an extension to a leaf", listOf(text(0x10), tiny), api.ErrProofNode},
		{"an extension to an empty list", listOf(text(0x10), listOf()), api.ErrProofNode},
		{"an extension to a branch", listOf(text(0x10), branchOf(text(), tiny, tiny)), api.OK},
		{"an extension to a branch of one thing", listOf(text(0x10), branchOf(tiny)), api.ErrProofNode},
		{"an extension to an extension", listOf(text(0x10), listOf(text(0x11), branchOf(tiny, tiny))), api.ErrProofNode},
		{"an extension to an extension by its hash", listOf(text(0x10), listOf(text(0x11), hashText())), api.ErrProofNode},
		{"an extension beside the key", listOf(text(0x15), hashText()), api.OK},
		{"a branch of nothing", branchOf(), api.ErrProofNode},
		{"a branch of one link", branchOf(hashText()), api.ErrProofNode},
		{"a branch of one node", branchOf(tiny), api.ErrProofNode},
		{"a branch of a value alone", valued(text(1), text()), api.ErrProofNode},
		{"a branch of a value and a link", valued(text(1), hashText()), api.OK},
		{"a branch of a value and a node", valued(text(1), tiny), api.OK},
		{"a branch of two links", branchOf(hashText(), hashText()), api.ErrProofShort},
		{"a branch of two leaves", branchOf(text(), tiny, tiny), api.OK},
		{"a branch with a list as its value", branchOf(append(branchOf(text(), tiny, tiny).Items[:16], listOf())...), api.ErrProofNode},
		{"a branch with a leaf as its value", branchOf(append(branchOf(text(), tiny, tiny).Items[:16], tiny)...), api.ErrProofNode},
		{"a branch with a link of 31 bytes", branchOf(text(), tiny, tiny, text(make([]byte, 31)...)), api.ErrProofNode},
		{"a branch with a link of 33 bytes", branchOf(text(), tiny, tiny, text(make([]byte, 33)...)), api.ErrProofNode},
		{"a branch with a link of one byte", branchOf(text(), tiny, tiny, text(1)), api.ErrProofNode},
		{"a branch with an empty list", branchOf(text(), tiny, tiny, listOf()), api.ErrProofNode},
		{"a branch with a broken leaf beside the way", branchOf(text(), tiny, tiny, listOf(text(0x20), text())), api.ErrProofNode},
		{"a branch with a broken path beside the way", branchOf(text(), tiny, tiny, listOf(text(0x40), text(1))), api.ErrProofNode},
		{"a branch with a list of three", branchOf(text(), tiny, tiny, listOf(text(0x20), text(1), text(1))), api.ErrProofNode},
		{"16 items", listOf(branchOf(tiny, tiny).Items[:16]...), api.ErrProofNode},
		{"18 items", branchOf(append(branchOf(tiny, tiny).Items, text())...), api.ErrProofNode},
		{"no items", listOf(), api.ErrProofNode},
		{"one item", listOf(text(0x20)), api.ErrProofNode},
		{"3 items", listOf(text(0x20), text(1), text(1)), api.ErrProofNode},
		{"a node in a list", listOf(tiny), api.ErrProofNode},
		{"a text", text(1), api.ErrProofNode},
		{"a leaf in a text", text(written(tiny)...), api.ErrProofNode},
		{"a text of 17 bytes", text(make([]byte, 17)...), api.ErrProofNode},
	} {
		b := written(c.it)
		root := keccak.Sum(b)
		verified{c.name, root, "\x00", [][]byte{b}, "", c.e}.check(t)
		if c.e == api.ErrProofNode {
			verified{c.name + ", another key", root, "\x99", [][]byte{b}, "", c.e}.check(t)
		}
		if got := checkCheck(t, root, list("\x00"), [][]byte{b}); got != c.e {
			t.Errorf("%s: Check = %d, want %d", c.name, got, c.e)
		}
		needs, e := checkNeed(t, root, []byte{0}, [][]byte{b})
		if e != c.e && c.e != api.ErrProofShort || needs != (c.e == api.ErrProofShort) {
			t.Errorf("%s: Need = %t, %d, want %d", c.name, needs, e, c.e)
		}
	}
}

// P13.2: bytes that are no item, or none in its one form, are no node.
func TestNoItems(t *testing.T) {
	for _, digits := range []string{
		"", "80", "00", "c2 20", "c1 20", "c2 20 78 00", "c2 20 78 c0", "c3 20 81 78", "c3 81 20 78", "f8 02 20 78", "f9 0002 20 78", "c4 20 b8 01 78", "c4 20 b8 38 78", "c3 20 b8 78", "b8", "bf ffffffffffffffff", "ff ffffffffffffffff", strings.Repeat("c1", 2000) + "c0",
	} {
		b := unhex(digits)
		if keccak.Sum(b) != hashOf(emptyRoot) {
			verified{digits[:min(len(digits), 40)], keccak.Sum(b), "", [][]byte{b}, "", api.ErrProofNode}.check(t)
		}
	}
	deep := append(append(unhex("fa 00 08 02 20"), bytes.Repeat([]byte{0xc1}, 2000)...), 0xc0)
	verified{"lists too deep", keccak.Sum(deep), "", [][]byte{deep}, "", api.ErrProofNode}.check(t)
	for _, lists := range []int{1022, 1023, 1024} { // rlp's edge: a node is refused on both sides of it
		it := listOf()
		for range lists {
			it = listOf(it)
		}
		b := written(listOf(text(0x10), it))
		verified{"deep lists", keccak.Sum(b), "", [][]byte{b}, "", api.ErrProofNode}.check(t)
	}
}

// P13.2: a node of 31 bytes stands within, one of 32 may not, whether the way goes by it or not.
func TestWithinEdge(t *testing.T) {
	for n := 20; n < 40; n++ {
		inner := listOf(text(0x20), text(make([]byte, n)...)) // n + 3 bytes
		e := api.OK
		if len(written(inner)) >= 32 {
			e = api.ErrProofNode
		}
		b := written(branchOf(text(), inner, hashText()))
		verified{"on the way", keccak.Sum(b), "\x10", [][]byte{b}, "", e}.check(t)
		verified{"beside it", keccak.Sum(b), "\x50", [][]byte{b}, "", e}.check(t)
	}
	for n := 1; n < 30; n++ { // a branch behind an extension
		inner := branchOf(text(), listOf(text(0x20), text(1)))
		inner.Items[16] = text(make([]byte, n)...)
		value, e := strings.Repeat("\x00", n), api.OK
		if len(written(inner)) >= 32 {
			value, e = "", api.ErrProofNode
		}
		b := written(listOf(text(0x00, 0x12), inner))
		verified{"a branch within", keccak.Sum(b), "\x12", [][]byte{b}, value, e}.check(t)
	}
}

// hashed tells the link by the hash of a node.
func hashed(b []byte) api.Item {
	digest := keccak.Sum(b)
	return text(digest[:]...)
}

// P13.2: what stands behind an extension by its hash is a branch, also in a node within another one; behind a branch it is any node.
func TestBehindExtension(t *testing.T) {
	tiny := listOf(text(0x20), text(1))
	aLeaf := written(tiny)
	aFork := written(branchOf(tiny, hashText()))
	anExtension := written(listOf(text(0x10), hashed(aFork)))
	for _, c := range []struct {
		name  string
		next  []byte
		rest  [][]byte
		value string
		e     api.Errno
	}{
		{"a leaf", aLeaf, nil, "", api.ErrProofNode},
		{"an extension", anExtension, [][]byte{aFork}, "", api.ErrProofNode},
		{"a branch", aFork, nil, "\x01", api.OK},
		{"no node", []byte{0xc0}, nil, "", api.ErrProofNode},
	} {
		first := written(listOf(text(0x17), hashed(c.next)))
		nodes := slices.Concat([][]byte{first, c.next}, c.rest)
		verified{c.name, keccak.Sum(first), "\x70", nodes, c.value, c.e}.check(t)
		verified{c.name + ", beside the way", keccak.Sum(first), "\x80", [][]byte{first}, "", api.OK}.check(t)
	}
	for name, next := range map[string][]byte{"a leaf": aLeaf, "an extension": anExtension} {
		first := written(branchOf(hashText(), hashed(next)))
		nodes := [][]byte{first, next}
		if name == "an extension" {
			nodes = append(nodes, aFork)
		}
		verified{name + " behind a branch", keccak.Sum(first), "\x10", nodes, "", api.OK}.check(t)
	}
}

// P13.2: an extension that stands within a branch, and its own branch within it.
func TestExtensionWithin(t *testing.T) {
	twig := branchOf(text(), listOf(text(0x20), text(1)))
	twig.Items[16] = text(2) // 20 bytes
	inner := listOf(text(0x15), twig)
	b := written(branchOf(hashText(), inner))
	root := keccak.Sum(b)
	for key, value := range map[string]string{"\x15": "\x02", "\x16": "", "\x15\x10": "", "\x10": "", "\x25": ""} {
		verified{"an extension within", root, key, [][]byte{b}, value, api.OK}.check(t)
	}
}

// P13.2: the words don't ask a node that is told by its hash to have 32 bytes; and the empty trie's root asks for nothing only as the root, not as a link.
func TestShortNodesByHash(t *testing.T) {
	tiny := written(listOf(text(0x20, 0x00), text(1)))
	first := written(branchOf(hashed(tiny), hashText(), hashed([]byte{0x80})))
	root := keccak.Sum(first)
	verified{"a leaf of 5 bytes", root, "\x00\x00", [][]byte{first, tiny}, "", api.OK}.check(t)
	odd := written(listOf(text(0x30), text(1)))
	first = written(branchOf(hashed(odd), hashText(), hashed([]byte{0x80})))
	root = keccak.Sum(first)
	verified{"a leaf of 3 bytes", root, "\x00", [][]byte{first, odd}, "\x01", api.OK}.check(t)
	verified{"the empty trie's root as a link", root, "\x20", [][]byte{first}, "", api.ErrProofShort}.check(t)
	verified{"and its text", root, "\x20", [][]byte{first, {0x80}}, "", api.ErrProofNode}.check(t)
}

// P13.2, P0.1: the errors in their order.
func TestOrderOfErrors(t *testing.T) {
	broken := unhex("c2 20 80")
	tooLong := make([]byte, api.MaxInput+1)
	for _, v := range []verified{
		{"a long key ahead of all", hashOf(emptyRoot), strings.Repeat("a", 65), [][]byte{tooLong}, "", api.ErrTrieKey},
		{"a long key, no nodes", stemRoot, strings.Repeat("a", 65), nil, "", api.ErrTrieKey},
		{"a much longer key", stemRoot, strings.Repeat("a", 1000), [][]byte{stem}, "", api.ErrTrieKey},
		{"the longest key", stemRoot, strings.Repeat("a", 64), [][]byte{stem}, "", api.OK},
		{"long nodes ahead of too many", hashOf(emptyRoot), "", [][]byte{tooLong}, "", api.ErrLong},
		{"long nodes ahead of a hash", api.Hash{}, "", [][]byte{tooLong}, "", api.ErrLong},
		{"long nodes that are not asked for", stemRoot, "\x77", [][]byte{stem, tooLong}, "", api.ErrLong},
		{"long nodes together", stemRoot, "\x77", [][]byte{stem, tooLong[:api.MaxInput-len(stem)+1]}, "", api.ErrLong},
		{"not too long nodes", stemRoot, "\x77", [][]byte{stem, tooLong[:api.MaxInput-len(stem)]}, "", api.ErrProofRest},
		{"the longest node", stemRoot, "\x77", [][]byte{tooLong[:api.MaxInput]}, "", api.ErrProofHash},
		{"a hash ahead of no node", stemRoot, "", [][]byte{broken}, "", api.ErrProofHash},
		{"no node ahead of too many", keccak.Sum(broken), "", [][]byte{broken, broken}, "", api.ErrProofNode},
		{"a hash ahead of too many", stemRoot, "\x12\x34", [][]byte{stem, broken, broken, broken}, "", api.ErrProofHash},
		{"what is not asked for is not looked at", stemRoot, "\x77", [][]byte{stem, broken}, "", api.ErrProofRest},
	} {
		v.check(t)
	}
}

// P13.2, P0.7: a node of MaxInput bytes, in which the value has nine fewer.
func TestLongestNode(t *testing.T) {
	value := bytes.Repeat([]byte{0xab}, api.MaxInput-9)
	b := slices.Concat(unhex("fa fffffc 20 ba fffff7"), value)
	if len(b) != api.MaxInput {
		t.Fatalf("%d bytes", len(b))
	}
	root := keccak.Sum(b)
	verified{"the longest node", root, "", [][]byte{b}, string(value), api.OK}.check(t)
	verified{"another key", root, "a", [][]byte{b, nil}, "", api.ErrProofRest}.check(t)
	verified{"one byte more", root, "", [][]byte{b, {0}}, "", api.ErrLong}.check(t)
	b[len(b)-1]++
	verified{"another node", root, "", [][]byte{b}, "", api.ErrProofHash}.check(t)
}

// P13.2, P13.5: the zero hash is a hash as others are.
func TestZeroHash(t *testing.T) {
	first := written(branchOf(text(make([]byte, 32)...), hashText()))
	root := keccak.Sum(first)
	verified{"a link of zeros", root, "\x00", [][]byte{first}, "", api.ErrProofShort}.check(t)
	if hash, needs, e := proof.Need(root, []byte{0}, [][]byte{first}); hash != (api.Hash{}) || !needs || e != api.OK {
		t.Errorf("Need = %x, %t, %d", hash, needs, e)
	}
	if hash, needs, e := proof.Need(root, []byte{0x10}, [][]byte{first}); hash != api.Hash(bytes.Repeat([]byte{7}, 32)) || !needs || e != api.OK {
		t.Errorf("Need = %x, %t, %d", hash, needs, e)
	}
}

// P13.2: a branch's value, where the key ends; none without bytes; with 32 bytes it is no link.
func TestBranchValue(t *testing.T) {
	for _, value := range []string{"v", long, strings.Repeat("\x07", 32), ""} {
		it := branchOf(listOf(text(0x20), text(1)), hashText())
		it.Items[16] = text([]byte(value)...)
		b := written(it)
		verified{"a key that ends in a branch", keccak.Sum(b), "", [][]byte{b}, value, api.OK}.check(t)
	}
}

// P13.2: proofs that stand for the doc's tries, with the roots that it tells.
func TestKnownRoots(t *testing.T) {
	root := hashOf("5991bb8c6514148a29db676a14ac506cd2cd5775ace63c30a4fe457715e9ac84")
	x := pairsOf(t, "do", "verb", "dog", "puppy", "doge", "coin", "horse", "stallion")
	for key, value := range map[string]string{"do": "verb", "dog": "puppy", "doge": "coin", "horse": "stallion", "": "", "d": "", "dot": "", "doges": "", "horses": "", "cat": ""} {
		verified{key, root, key, mustProve(t, x, key), value, api.OK}.check(t)
	}
	verified{"another trie", trie.Empty(), "do", mustProve(t, x, "do"), "", api.ErrProofRest}.check(t)
}
