package proof_test

import (
	"bytes"
	"slices"
	"strings"
	"testing"

	"waybill/api"
	"waybill/chance"
	"waybill/proof"
	"waybill/trie"
)

// longest is the value of which the long ones are the beginnings.
var longest = strings.Repeat("waybill!", api.MaxInput/8)

// sized tells how many bytes nodes have together.
func sized(nodes [][]byte) int { return len(bytes.Join(nodes, nil)) }

// checkProve holds Prove against what it ought to answer.
func checkProve(t *testing.T, x *trie.Trie, key string, want [][]byte, e api.Errno) {
	t.Helper()
	if got, err := proof.Prove(x, []byte(key)); !slices.EqualFunc(got, want, bytes.Equal) || err != e {
		t.Errorf("Prove(%x) = %s, %d, want %s, %d", key, told(got), err, told(want), e)
	}
}

// checkBundle holds Bundle against what it ought to answer.
func checkBundle(t *testing.T, x *trie.Trie, keys []string, want [][]byte, e api.Errno) {
	t.Helper()
	if got, err := proof.Bundle(x, list(keys...)...); !slices.EqualFunc(got, want, bytes.Equal) || err != e {
		t.Errorf("Bundle(%x) = %s, %d, want %s, %d", keys, told(got), err, told(want), e)
	}
}

// P13.1: the chapter's first two examples, and chapter 12's fifth, byte by byte.
func TestProveExamples(t *testing.T) {
	for _, key := range []string{"", "a", strings.Repeat("a", 64)} {
		checkProve(t, trie.New(), key, nil, api.OK)
		checkProve(t, &trie.Trie{}, key, nil, api.OK)
	}
	x := pairsOf(t, "\x12\x34", "v")
	for _, key := range []string{"\x12\x34", "\x12\x35", "\x12", "\x77", "", "\x12\x34\x00"} {
		checkProve(t, x, key, [][]byte{unhex("c5 83 20 12 34 76")}, api.OK)
	}
	x = pairsOf(t, "\x12\x34", long, "\x12\x35", "z")
	for key, want := range map[string][][]byte{"\x12\x34": {stem, fork, longLeaf}, "\x12\x35": {stem, fork}, "\x77": {stem}, "\x12": {stem}, "": {stem}, "\x12\x36": {stem, fork}, "\x12\x34\x56": {stem, fork, longLeaf}, "\x12\x35\x00": {stem, fork}} {
		checkProve(t, x, key, want, api.OK)
	}
	x.Delete([]byte("\x12\x34"))
	x.Delete([]byte("\x12\x35"))
	checkProve(t, x, "\x12\x34", nil, api.OK)
}

// P13.1, P0.5: the errors in their order.
func TestProveErrors(t *testing.T) {
	x := pairsOf(t, "", longest)
	checkProve(t, nil, "", nil, api.ErrArg)
	checkProve(t, nil, strings.Repeat("a", 65), nil, api.ErrArg)
	checkProve(t, x, strings.Repeat("a", 65), nil, api.ErrTrieKey)
	checkProve(t, x, strings.Repeat("a", 1000), nil, api.ErrTrieKey)
	checkProve(t, trie.New(), strings.Repeat("a", 65), nil, api.ErrTrieKey)
	checkProve(t, x, strings.Repeat("a", 64), nil, api.ErrLong)
	checkProve(t, x, "", nil, api.ErrLong)
}

// P13.1: what t.Nodes tells, of tries by chance; each node is the one that the model's way asks for.
func TestProveByChance(t *testing.T) {
	row := chance.Row(1310)
	counts := map[int]int{}
	for range 200 {
		x, keys := anyTrie(t, &row, 40)
		for range 10 {
			key := anyKey(&row)
			want := x.Nodes([]byte(key))
			counts[len(want)]++
			checkProve(t, x, key, want, api.OK)
			if value, e := modelVerify(x.Root(), []byte(key), want); e != api.OK || (value != "") != slices.Contains(keys, key) {
				t.Errorf("the model takes the proof of %x for %x, %d", key, value, e)
			}
		}
	}
	for _, n := range []int{0, 1, 2, 3, 4} {
		if counts[n] == 0 {
			t.Errorf("no proof has %d nodes", n)
		}
	}
}

// inLeaf: so many bytes has a leaf of one nibble or none beside a long value.
const inLeaf = 9

// P13.1, P0.7: nodes of MaxInput bytes together are answered, of one more they are not: a single one, and three.
func TestProveLong(t *testing.T) {
	top := sized(mustProve(t, pairsOf(t, "a", longest[:1<<23], "ab", long), "a"))
	for more := range 2 {
		x := pairsOf(t, "", longest[:api.MaxInput-inLeaf+more])
		checkLongProof(t, x, "", 1, api.MaxInput+more)
		x = pairsOf(t, "a", longest[:1<<23], "ab", longest[:api.MaxInput-top-inLeaf+more])
		checkLongProof(t, x, "ab", 3, api.MaxInput+more)
	}
}

// checkLongProof looks whether a proof of so many nodes and bytes is refused just if it is too long.
func checkLongProof(t *testing.T, x *trie.Trie, key string, count, size int) {
	t.Helper()
	want, e := x.Nodes([]byte(key)), api.OK
	if len(want) != count || sized(want) != size {
		t.Fatalf("%d nodes of %d bytes, want %d of %d", len(want), sized(want), count, size)
	}
	if size > api.MaxInput {
		want, e = nil, api.ErrLong
	}
	checkProve(t, x, key, want, e)
}

// P13.3: each node where it stands for the first time; no keys, no nodes.
func TestBundle(t *testing.T) {
	x := pairsOf(t, "\x12\x34", long, "\x12\x35", "z")
	checkBundle(t, x, nil, nil, api.OK)
	checkBundle(t, trie.New(), nil, nil, api.OK)
	checkBundle(t, trie.New(), []string{"a", "", "a"}, nil, api.OK)
	for _, c := range []struct {
		keys []string
		want [][]byte
	}{
		{[]string{"\x12\x34"}, [][]byte{stem, fork, longLeaf}}, {[]string{"\x77"}, [][]byte{stem}}, {[]string{"\x77", "\x12\x35"}, [][]byte{stem, fork}}, {[]string{"\x12\x35", "\x77", "\x12\x34", "\x12\x35"}, [][]byte{stem, fork, longLeaf}}, {[]string{"\x12\x34", "\x12\x34"}, [][]byte{stem, fork, longLeaf}},
	} {
		checkBundle(t, x, c.keys, c.want, api.OK)
	}
	// Two leaves of the same bytes in two places: one node.
	twins := pairsOf(t, "\x12", long, "\x32", long, "\x13", "z")
	first, second := mustProve(t, twins, "\x12"), mustProve(t, twins, "\x32")
	if len(first) != 3 || len(second) != 2 {
		t.Fatalf("proofs of %d and %d nodes", len(first), len(second))
	}
	checkBundle(t, twins, []string{"\x32", "\x12"}, [][]byte{second[0], second[1], first[1], first[2]}, api.OK)
	same := pairsOf(t, "\x12", long, "\x22", long)
	one := mustProve(t, same, "\x12")
	checkBundle(t, same, []string{"\x12", "\x22"}, one, api.OK)
	if len(one) != 2 || checkCheck(t, same.Root(), list("\x12", "\x22"), one) != api.OK {
		t.Errorf("a node that two links ask for: %s", told(one))
	}
}

// P13.3: Bundle is Prove of each key, in the keys' order, without what stands there already.
func TestBundleByChance(t *testing.T) {
	row := chance.Row(1311)
	for range 200 {
		x, keys := anyTrie(t, &row, 40)
		for range 5 {
			keys = append(keys, anyKey(&row))
		}
		keys = keys[:row.Below(len(keys)+1)]
		var all [][]byte
		for _, key := range keys {
			all = append(all, mustProve(t, x, key)...)
		}
		checkBundle(t, x, keys, once(all), api.OK)
	}
}

// P13.3: the errors in their order, whatever key they are of.
func TestBundleErrors(t *testing.T) {
	tooLong := strings.Repeat("a", 65)
	x, y := pairsOf(t, "", longest), pairsOf(t, "a", "x")
	checkBundle(t, nil, nil, nil, api.ErrArg)
	checkBundle(t, nil, []string{tooLong}, nil, api.ErrArg)
	checkBundle(t, x, []string{"", "a", tooLong}, nil, api.ErrTrieKey)
	checkBundle(t, x, []string{tooLong, ""}, nil, api.ErrTrieKey)
	checkBundle(t, y, []string{"a", tooLong, "b"}, nil, api.ErrTrieKey)
	checkBundle(t, trie.New(), []string{tooLong}, nil, api.ErrTrieKey)
	checkBundle(t, x, []string{"a", ""}, nil, api.ErrLong)
	checkBundle(t, x, nil, nil, api.OK)
}

// P13.3, P0.7: a long node that stands in several proofs counts once; different ones count together.
func TestBundleLong(t *testing.T) {
	x := pairsOf(t, "", longest[:10<<20], "a", long, "b", long)
	keys := []string{"", "a", "b", "c", ""}
	nodes, e := proof.Bundle(x, list(keys...)...)
	if e != api.OK || sized(nodes) > 11<<20 {
		t.Errorf("Bundle = %d bytes, %d", sized(nodes), e)
	}
	if values, _, e := proof.Check(x.Root(), list(keys...), nodes); e != api.OK || len(values[0]) != 10<<20 || len(values[4]) != 10<<20 || string(values[1]) != long {
		t.Errorf("Check = %d", e)
	}
}

// P13.3, P0.7: nodes of several keys, of MaxInput bytes together and of one more.
func TestBundleEdge(t *testing.T) {
	const half = 1 << 23
	top := sized(mustProve(t, pairsOf(t, "\x12", long, "\x32", long), "\x77"))
	for more := range 2 {
		x := pairsOf(t, "\x12", longest[:half], "\x32", longest[half+top+2*inLeaf-more:])
		want, e := once(slices.Concat(mustProve(t, x, "\x12"), mustProve(t, x, "\x32"))), api.OK
		if len(want) != 3 || sized(want) != api.MaxInput+more {
			t.Fatalf("%d nodes of %d bytes, with %d more", len(want), sized(want), more)
		}
		if more > 0 {
			want, e = nil, api.ErrLong
		}
		checkBundle(t, x, []string{"\x12", "\x32", "\x12"}, want, e)
	}
}
