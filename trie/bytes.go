package trie

import (
	"bytes"
	"slices"

	"waybill/api"
	"waybill/keccak"
	"waybill/nibble"
	"waybill/rlp"
)

const (
	hashedFrom = 32 // bytes of the shortest node that is mentioned by its digest

	// Ahead of a length of k bytes stands this and k.
	longText = 0xb7
	longList = 0xf7
)

// written is a node whose bytes are known already. It stands in for one while others are written, and in no trie.
type written []byte

func (written) isNode() {}

// bytesOf tells a node's bytes; of no keys those of the text without bytes, so that all roots and mentions are made alike.
func bytesOf(n node) []byte {
	switch n := n.(type) {
	case leaf:
		return listOf(pathOf(n.rest, true), textOf(n.value))
	case extension:
		return listOf(pathOf(n.path, false), mention(n.next))
	case branch:
		var parts [][]byte
		for _, next := range n.next {
			parts = append(parts, mention(next))
		}
		return listOf(append(parts, textOf(n.value))...)
	case written:
		return n
	}
	return textOf(nil)
}

// mention tells the bytes by which a node stands within another one.
func mention(n node) []byte {
	b := bytesOf(n)
	if isWithin(b) {
		return b
	}
	digest := keccak.Sum(b)
	return textOf(digest[:])
}

// isWithin tells whether a node of these bytes stands itself where it is mentioned.
func isWithin(b []byte) bool { return len(b) < hashedFrom }

// trail tells the bytes of each node on the way to a row, from this one on. It writes from the last one back to the first: each one is written once, not again for all that are ahead of it.
func trail(n node, row []byte) [][]byte {
	var after [][]byte
	switch at := n.(type) {
	case extension:
		if rest, ok := bytes.CutPrefix(row, at.path); ok {
			after = trail(at.next, rest)
			at.next = written(after[0])
			n = at
		}
	case branch:
		if len(row) > 0 && at.next[row[0]] != nil {
			after = trail(at.next[row[0]], row[1:])
			at.next[row[0]] = written(after[0])
			n = at
		}
	}
	return slices.Concat([][]byte{bytesOf(n)}, after)
}

// pathOf tells the bytes of a packed row as an item.
func pathOf(row []byte, leaf bool) []byte {
	packed, _ := nibble.Pack(row, leaf) // goes well: a key's row has nibbles alone
	return textOf(packed)
}

// textOf tells the bytes of a text as an item. rlp refuses only what is too long, and here that must go too.
func textOf(text []byte) []byte {
	if b, e := rlp.Encode(api.Item{Data: text}); e == api.OK {
		return b
	}
	return slices.Concat(longHead(longText, len(text)), text)
}

// listOf tells the bytes of a list of items whose bytes are given, one that is too long for rlp too.
func listOf(parts ...[]byte) []byte {
	if b, e := rlp.Join(parts...); e == api.OK {
		return b
	}
	held := slices.Concat(parts...)
	return slices.Concat(longHead(longList, len(held)), held)
}

// longHead tells the head of what holds so many bytes, more than 55.
func longHead(first byte, held int) []byte {
	length := rlp.Small(uint64(held)).Data
	return append([]byte{first + byte(len(length))}, length...)
}
