package proof_test

import (
	"bytes"
	"slices"
	"strings"
	"testing"

	"waybill/api"
	"waybill/chance"
	"waybill/keccak"
	"waybill/proof"
)

// checked is a call of Check and what it ought to answer; a value of no bytes: nothing is there.
type checked struct {
	name   string
	root   api.Hash
	keys   []string
	nodes  [][]byte
	values []string
	e      api.Errno
}

func (c checked) check(t *testing.T) {
	t.Helper()
	values, there, e := proof.Check(c.root, list(c.keys...), c.nodes)
	if e != c.e || len(values) != len(c.values) || len(there) != len(c.values) {
		t.Errorf("%s: Check = %x, %t, %d, want %x, %d", c.name, values, there, e, c.values, c.e)
		return
	}
	for i, want := range c.values {
		if string(values[i]) != want || there[i] != (want != "") {
			t.Errorf("%s: Check tells %x, %t of %x, want %x", c.name, values[i], there[i], c.keys[i], want)
		}
	}
	if _, e := modelCheck(c.root, list(c.keys...), c.nodes); e != c.e {
		t.Errorf("%s: the model says otherwise: %d", c.name, e)
	}
}

// P13.4: nodes in any order; a key may stand twice.
func TestCheck(t *testing.T) {
	other := unhex("c5 83 20 12 34 77")
	for _, c := range []checked{
		{"no keys", stemRoot, nil, nil, nil, api.OK},
		{"no keys, another root", api.Hash{}, nil, nil, nil, api.OK},
		{"no keys, a node", stemRoot, nil, [][]byte{stem}, nil, api.ErrProofRest},
		{"no keys, a node without bytes", stemRoot, nil, [][]byte{nil}, nil, api.ErrProofRest},
		{"no trie", hashOf(emptyRoot), []string{"a", "", "a"}, nil, []string{"", "", ""}, api.OK},
		{"no trie, a node", hashOf(emptyRoot), []string{"a"}, [][]byte{stem}, nil, api.ErrProofRest},
		{"no trie, its text", hashOf(emptyRoot), []string{"a"}, [][]byte{{0x80}}, nil, api.ErrProofRest},
		{"one key", stemRoot, []string{"\x12\x34"}, [][]byte{stem, fork, longLeaf}, []string{long}, api.OK},
		{"backwards", stemRoot, []string{"\x12\x34"}, [][]byte{longLeaf, fork, stem}, []string{long}, api.OK},
		{"several keys", stemRoot, []string{"\x77", "\x12\x35", "\x12\x34", "", "\x12\x35", "\x12\x34"}, [][]byte{fork, longLeaf, stem}, []string{"", "z", long, "", "z", long}, api.OK},
		{"one that nothing asks for", stemRoot, []string{"\x77", "\x12\x35"}, [][]byte{stem, fork, longLeaf}, nil, api.ErrProofRest},
		{"another node", stemRoot, []string{"\x12\x34"}, [][]byte{stem, other, fork, longLeaf}, nil, api.ErrProofRest},
		{"one without bytes", stemRoot, []string{"\x12\x34"}, [][]byte{stem, {}, fork, longLeaf}, nil, api.ErrProofRest},
		{"the first left out", stemRoot, []string{"\x12\x34"}, [][]byte{fork, longLeaf}, nil, api.ErrProofShort},
		{"the second left out", stemRoot, []string{"\x12\x34"}, [][]byte{stem, longLeaf}, nil, api.ErrProofShort},
		{"the last left out", stemRoot, []string{"\x12\x35", "\x12\x34"}, [][]byte{stem, fork}, nil, api.ErrProofShort},
		{"no nodes", stemRoot, []string{"\x12\x34"}, nil, nil, api.ErrProofShort},
		{"another root", api.Hash{}, []string{"\x12\x34"}, [][]byte{stem, fork, longLeaf}, nil, api.ErrProofShort},
		{"one twice", stemRoot, []string{"\x12\x34"}, [][]byte{stem, fork, longLeaf, stem}, nil, api.ErrProofRest},
		{"two without bytes", stemRoot, nil, [][]byte{nil, {}}, nil, api.ErrProofRest},
	} {
		c.check(t)
	}
}

// P13.4, P0.1: the errors in their order; of several keys that of the first one's way.
func TestCheckErrors(t *testing.T) {
	tooLong := strings.Repeat("a", 65)
	longNode := make([]byte, api.MaxInput)
	broken := unhex("c2 20 80")
	top := written(branchOf(hashed(broken), hashText(), hashed(longLeaf)))
	root := keccak.Sum(top)
	for _, c := range []checked{
		{"a long key ahead of all", stemRoot, []string{"a", tooLong}, [][]byte{longNode, {0}, {0}}, nil, api.ErrTrieKey},
		{"a long key first", stemRoot, []string{tooLong, "a"}, nil, nil, api.ErrTrieKey},
		{"a long key, no trie", hashOf(emptyRoot), []string{tooLong}, nil, nil, api.ErrTrieKey},
		{"the longest key", stemRoot, []string{tooLong[:64]}, [][]byte{stem}, []string{""}, api.OK},
		{"long nodes ahead of twins", stemRoot, nil, [][]byte{longNode, longNode}, nil, api.ErrLong},
		{"long nodes, no keys", stemRoot, nil, [][]byte{longNode, {0}}, nil, api.ErrLong},
		{"long nodes that one asks for", stemRoot, []string{"\x77"}, [][]byte{stem, longNode}, nil, api.ErrLong},
		{"not too long nodes", stemRoot, []string{"\x77"}, [][]byte{stem, longNode[len(stem):]}, nil, api.ErrProofRest},
		{"twins ahead of a lack", stemRoot, []string{"\x12\x34"}, [][]byte{fork, fork}, nil, api.ErrProofRest},
		{"twins ahead of no node", keccak.Sum(broken), []string{""}, [][]byte{broken, broken}, nil, api.ErrProofRest},
		{"twins, no keys", stemRoot, nil, [][]byte{stem, stem}, nil, api.ErrProofRest},
		{"a lack ahead of too many", stemRoot, []string{"\x12\x34"}, [][]byte{fork, longLeaf, broken}, nil, api.ErrProofShort},
		{"no node ahead of too many", root, []string{"\x00"}, [][]byte{top, broken, stem}, nil, api.ErrProofNode},
		{"no node that nothing asks for", root, []string{"\x30"}, [][]byte{top, broken}, nil, api.ErrProofRest},
		{"no node, then a lack", root, []string{"\x00", "\x10"}, [][]byte{top, broken}, nil, api.ErrProofNode},
		{"a lack, then no node", root, []string{"\x10", "\x00"}, [][]byte{top, broken}, nil, api.ErrProofShort},
		{"a value, then no node", root, []string{"\x20", "\x00"}, [][]byte{top, broken, longLeaf}, nil, api.ErrProofNode},
		{"two keys that lack one", root, []string{"\x10", "\x20"}, [][]byte{top}, nil, api.ErrProofShort},
	} {
		c.check(t)
	}
}

// P13.4: a leaf may stand behind a branch and not behind an extension, also if it is asked for by both.
func TestCheckBehindExtension(t *testing.T) {
	leaf := written(listOf(text(0x30), text([]byte(long)...)))
	extension := written(listOf(text(0x00, 0x00), hashed(leaf)))
	top := written(branchOf(hashed(leaf), hashed(extension)))
	root := keccak.Sum(top)
	nodes := [][]byte{top, leaf, extension}
	for _, c := range []checked{
		{"by the branch", root, []string{"\x00"}, [][]byte{top, leaf}, []string{long}, api.OK},
		{"beside the extension", root, []string{"\x00", "\x11"}, nodes, []string{long, ""}, api.OK},
		{"by the extension too", root, []string{"\x00", "\x10\x00"}, nodes, nil, api.ErrProofNode},
		{"by the extension first", root, []string{"\x10\x00", "\x00"}, nodes, nil, api.ErrProofNode},
	} {
		c.check(t)
	}
	if hash, needs, e := proof.Need(root, []byte("\x10\x00"), nodes); hash != (api.Hash{}) || needs || e != api.ErrProofNode {
		t.Errorf("Need = %x, %t, %d", hash, needs, e)
	}
}

// P13.5: the chapter's fifth example, step by step; what nothing asks for and what stands twice does no harm.
func TestNeed(t *testing.T) {
	other := unhex("c5 83 20 12 34 77")
	for _, c := range []struct {
		name  string
		root  api.Hash
		key   string
		nodes [][]byte
		needs []byte // nil: nothing
		e     api.Errno
	}{
		{"nothing is there", stemRoot, "\x12\x34", nil, stem, api.OK},
		{"one is there", stemRoot, "\x12\x34", [][]byte{stem}, fork, api.OK},
		{"two are there", stemRoot, "\x12\x34", [][]byte{fork, stem}, longLeaf, api.OK},
		{"all are there", stemRoot, "\x12\x34", [][]byte{longLeaf, fork, stem}, nil, api.OK},
		{"the first lacks", stemRoot, "\x12\x34", [][]byte{longLeaf, fork}, stem, api.OK},
		{"the one between lacks", stemRoot, "\x12\x34", [][]byte{longLeaf, stem}, fork, api.OK},
		{"more are there", stemRoot, "\x77", [][]byte{longLeaf, fork, stem, other}, nil, api.OK},
		{"all twice", stemRoot, "\x12\x34", [][]byte{stem, longLeaf, fork, fork, longLeaf, stem, nil, nil}, nil, api.OK},
		{"others alone", stemRoot, "\x12\x34", [][]byte{other, other, nil}, stem, api.OK},
		{"the one within", stemRoot, "\x12\x35", [][]byte{stem, fork}, nil, api.OK},
		{"no trie", hashOf(emptyRoot), "a", nil, nil, api.OK},
		{"no trie, some nodes", hashOf(emptyRoot), "a", [][]byte{stem, stem}, nil, api.OK},
		{"no node", keccak.Sum(unhex("c2 20 80")), "", [][]byte{unhex("c2 20 80")}, nil, api.ErrProofNode},
		{"no node that nothing asks for", stemRoot, "\x77", [][]byte{unhex("c2 20 80"), stem}, nil, api.OK},
		{"a long key", stemRoot, strings.Repeat("a", 65), [][]byte{make([]byte, api.MaxInput+1)}, nil, api.ErrTrieKey},
		{"a long key, no trie", hashOf(emptyRoot), strings.Repeat("a", 65), nil, nil, api.ErrTrieKey},
		{"long nodes", stemRoot, strings.Repeat("a", 64), [][]byte{make([]byte, api.MaxInput), {0}}, nil, api.ErrLong},
		{"long nodes, no trie", hashOf(emptyRoot), "", [][]byte{make([]byte, api.MaxInput+1)}, nil, api.ErrLong},
		{"the longest nodes", stemRoot, "\x77", [][]byte{make([]byte, api.MaxInput-len(stem)), stem}, nil, api.OK},
	} {
		var want api.Hash
		if c.needs != nil {
			want = keccak.Sum(c.needs)
		}
		hash, needs, e := proof.Need(c.root, []byte(c.key), c.nodes)
		if hash != want || needs != (c.needs != nil) || e != c.e {
			t.Errorf("%s: Need = %x, %t, %d, want %x, %d", c.name, hash, needs, e, want, c.e)
		}
		checkNeed(t, c.root, []byte(c.key), c.nodes)
	}
}

// P13.5: who brings what Need tells, till it tells nothing more, has the proof.
func TestNeedStepByStep(t *testing.T) {
	row := chance.Row(1320)
	for range 100 {
		x, _ := anyTrie(t, &row, 40)
		root, key := x.Root(), anyKey(&row)
		whole := mustProve(t, x, key)
		var nodes [][]byte
		for len(nodes) <= len(whole) {
			hash, needs, e := proof.Need(root, []byte(key), nodes)
			if e != api.OK {
				t.Fatalf("Need = %d", e)
			}
			if !needs {
				break
			}
			i := slices.IndexFunc(whole, func(b []byte) bool { return keccak.Sum(b) == hash })
			if i < 0 {
				t.Fatalf("Need asks for %x, which is not on the way", hash)
			}
			nodes = append(nodes, whole[i])
		}
		if !slices.EqualFunc(nodes, whole, bytes.Equal) {
			t.Errorf("Need asks for %s, want %s", told(nodes), told(whole))
		}
	}
}
