package proof

import (
	"bytes"

	"waybill/api"
	"waybill/keccak"
	"waybill/nibble"
	"waybill/trie"
)

// source has the nodes that a way asks for.
type source interface {
	ask(digest api.Hash) ([]byte, api.Errno)
}

// follow goes a key's way from a root on, and tells the value that it ends with: no bytes, if it ends with nothing.
func follow(root api.Hash, key []byte, from source) ([]byte, api.Errno) {
	if root == trie.Empty() {
		return nil, api.OK
	}
	var at place = asked{digest: root}
	row := nibble.Of(key)
	for {
		switch n := at.(type) {
		case asked:
			var e api.Errno
			if at, e = n.fetch(from); e != api.OK {
				return nil, e
			}
		case branch:
			if len(row) == 0 {
				return n.value, api.OK
			}
			at, row = n.next[row[0]], row[1:]
		case extension:
			rest, ok := bytes.CutPrefix(row, n.path)
			if !ok {
				return nil, api.OK
			}
			at, row = n.next, rest
		case leaf:
			if !bytes.Equal(n.rest, row) {
				return nil, api.OK
			}
			return n.value, api.OK
		default:
			return nil, api.OK
		}
	}
}

// isThere tells whether a way has ended with a value: there is none without bytes.
func isThere(value []byte) bool { return len(value) > 0 }

// fetch tells the node that is asked for.
func (a asked) fetch(from source) (place, api.Errno) {
	b, e := from.ask(a.digest)
	if e != api.OK {
		return nil, e
	}
	n, ok := read(b)
	if !ok || a.fork && !isBranch(n) {
		return nil, api.ErrProofNode
	}
	return n, api.OK
}

// queue has nodes that are to be asked for one behind the other.
type queue [][]byte

func (q *queue) ask(digest api.Hash) ([]byte, api.Errno) {
	if len(*q) == 0 {
		return nil, api.ErrProofShort
	}
	next := (*q)[0]
	if keccak.Sum(next) != digest {
		return nil, api.ErrProofHash
	}
	*q = (*q)[1:]
	return next, api.OK
}
