package proof_test

import (
	"bytes"
	"slices"
	"strings"
	"testing"

	"waybill/api"
	"waybill/chance"
	"waybill/keccak"
	"waybill/proof"
	"waybill/trie"
)

// checkComplete looks whether the proofs of keys are taken and tell what the trie has: one by one, and together.
func checkComplete(t *testing.T, x *trie.Trie, keys []string) {
	t.Helper()
	root := x.Root()
	for _, key := range keys {
		want, has := x.Get([]byte(key))
		value, there, e := proof.Verify(root, []byte(key), mustProve(t, x, key))
		if !bytes.Equal(value, want) || there != has || e != api.OK {
			t.Errorf("Verify of Prove(%x) = %x, %t, %d, want %x, %t", key, value, there, e, want, has)
		}
	}
	nodes, e := proof.Bundle(x, list(keys...)...)
	if e != api.OK {
		t.Fatalf("Bundle(%x) = %d", keys, e)
	}
	for range 2 {
		values, there, e := proof.Check(root, list(keys...), nodes)
		if e != api.OK || len(values) != len(keys) || len(there) != len(keys) {
			t.Fatalf("Check of Bundle(%x): %d values, %d", keys, len(values), e)
		}
		for i, key := range keys {
			if want, has := x.Get([]byte(key)); !bytes.Equal(values[i], want) || there[i] != has {
				t.Errorf("Check of Bundle tells %x, %t of %x, want %x, %t", values[i], there[i], key, want, has)
			}
		}
		slices.Reverse(nodes)
	}
}

// P13.6, P0.13: of tries by chance, of keys that are there and keys that are not.
func TestComplete(t *testing.T) {
	row := chance.Row(1330)
	for range 200 {
		x, keys := anyTrie(t, &row, 60)
		for range 10 {
			keys = append(keys, anyKey(&row))
		}
		checkComplete(t, x, keys)
	}
}

// P13.6: keys of all lengths to MaxKey that begin one another, hashes as keys, places of a list as keys.
func TestCompleteKinds(t *testing.T) {
	row := chance.Row(1331)
	chain, hashes, places := trie.New(), trie.New(), trie.New()
	var keys [3][]string
	for n := range api.MaxKey + 1 {
		key := strings.Repeat("k", n)
		mustPut(t, chain, key, anyValue(&row))
		keys[0] = append(keys[0], key, key[:n/2]+"l")
	}
	for i := range 300 {
		digest := keccak.Sum([]byte{byte(i), byte(i >> 8)})
		mustPut(t, hashes, string(digest[:]), anyValue(&row))
		other := keccak.Sum(digest[:])
		keys[1] = append(keys[1], string(digest[:]), string(other[:]))
		place := written(text(bytes.TrimLeft([]byte{byte(i >> 8), byte(i)}, "\x00")...))
		mustPut(t, places, string(place), long+anyValue(&row))
		keys[2] = append(keys[2], string(place), string(place)+"\x00")
	}
	for i, x := range []*trie.Trie{chain, hashes, places} {
		checkComplete(t, x, keys[i])
	}
	if nodes := mustProve(t, chain, strings.Repeat("k", api.MaxKey)); len(nodes) < 64 {
		t.Errorf("the longest way has %d nodes", len(nodes))
	}
}

// P13.6: tries of no key, of one, of a key without bytes; and one from which keys were deleted.
func TestCompleteSmall(t *testing.T) {
	asked := []string{"", "a", "ab", "b", "\x00", "\x61\x00", strings.Repeat("a", 64)}
	for _, pairs := range [][]string{{}, {"", "v"}, {"", long}, {"a", "x"}, {"a", long}, {"", "v", "a", "x"}, {"a", "x", "ab", "y"}, {"a", long, "ab", long}, {"a", "x", "b", "y"}, {strings.Repeat("a", 64), "x", "", strings.Repeat("\x07", 32)}} {
		checkComplete(t, pairsOf(t, pairs...), asked)
		x := pairsOf(t, slices.Concat(pairs, []string{"gone", long, "", "y", "a", "z"})...)
		for _, key := range []string{"gone", "", "a"} {
			x.Delete([]byte(key))
		}
		checkComplete(t, x, asked)
	}
}

// P13.7, P0.13: whatever is done to proofs, what is taken for a root and a key is what the trie has. No two texts of one Keccak are known, so there is no exception to be met.
func TestOneAnswer(t *testing.T) {
	row := chance.Row(1332)
	taken := 0
	for range 100 {
		x, _ := anyTrie(t, &row, 30)
		y, _ := anyTrie(t, &row, 30)
		root := x.Root()
		for range 20 {
			key, other := anyKey(&row), anyKey(&row)
			w := wild{row: &row, nodes: slices.Concat(mustProve(t, x, key), mustProve(t, x, other), mustProve(t, y, key), [][]byte{unhex("c5 83 20 12 34 76")})}
			want, has := x.Get([]byte(key))
			lists := [][][]byte{mustProve(t, x, key), mustProve(t, x, other), mustProve(t, y, key)}
			for range 5 {
				lists = append(lists, w.shaken(lists[row.Below(3)]))
			}
			for _, nodes := range lists {
				value, there, e := proof.Verify(root, []byte(key), nodes)
				if e != api.OK {
					continue
				}
				taken++
				if !bytes.Equal(value, want) || there != has || !slices.EqualFunc(nodes, lists[0], bytes.Equal) {
					t.Errorf("%s is taken, and tells %x, %t of %x", told(nodes), value, there, key)
				}
			}
		}
	}
	if taken < 1000 {
		t.Errorf("only %d proofs were taken", taken)
	}
}

// P13.8: further nodes behind a proof, one left out, one byte changed.
func TestNothingLeftOut(t *testing.T) {
	row := chance.Row(1333)
	further := [][]byte{nil, {0x80}, {0xc0}, unhex("c5 83 20 12 34 76"), stem, longLeaf}
	for range 60 {
		x, _ := anyTrie(t, &row, 30)
		root, key := x.Root(), []byte(anyKey(&row))
		nodes := mustProve(t, x, string(key))
		for _, more := range slices.Concat(further, nodes) {
			for _, behind := range [][][]byte{{more}, {more, more}} {
				if value, there, e := proof.Verify(root, key, slices.Concat(nodes, behind)); len(value) > 0 || there || e != api.ErrProofRest {
					t.Errorf("%s with %s behind it: %x, %t, %d", told(nodes), told(behind), value, there, e)
				}
			}
		}
		for i := range nodes {
			if _, _, e := proof.Verify(root, key, slices.Delete(slices.Clone(nodes), i, i+1)); e != api.ErrProofShort && e != api.ErrProofHash {
				t.Errorf("%s without the node %d: %d", told(nodes), i, e)
			}
			for at := range nodes[i] {
				changed := slices.Clone(nodes)
				changed[i] = bytes.Clone(nodes[i])
				changed[i][at] ^= byte(1 + row.Below(255))
				if value, there, e := proof.Verify(root, key, changed); len(value) > 0 || there || e != api.ErrProofHash {
					t.Errorf("%s with another byte %d of the node %d: %x, %t, %d", told(nodes), at, i, value, there, e)
				}
			}
		}
	}
}

// P13.8: further nodes that are too long with the proof.
func TestNothingLong(t *testing.T) {
	room := make([]byte, api.MaxInput-len(stem)+1)
	for more, want := range map[int]api.Errno{len(room): api.ErrLong, len(room) - 1: api.ErrProofRest} {
		if value, there, e := proof.Verify(stemRoot, []byte{0x77}, [][]byte{stem, room[:more]}); len(value) > 0 || there || e != want {
			t.Errorf("%d bytes behind a proof: %d, want %d", more, e, want)
		}
	}
}
