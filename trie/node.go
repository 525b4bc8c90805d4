package trie

import (
	"bytes"
	"iter"
	"slices"

	"waybill/nibble"
)

// node is a leaf, an extension or a branch; nil is that of no keys. Of one map there is one tree of them: put and remove leave an extension with a branch behind it, and a branch with two things at least.
type node interface{ isNode() }

// leaf is the node of one key.
type leaf struct {
	rest  []byte // its nibbles from here on
	value []byte
}

// extension is the node of keys that go on alike for some nibbles.
type extension struct {
	path []byte
	next node
}

// branch is the node of keys that part here, by their next nibbles.
type branch struct {
	next  [16]node
	value []byte // of the key that ends here; no bytes: none does
}

func (leaf) isNode()      {}
func (extension) isNode() {}
func (branch) isNode()    {}

// find tells the value under a row.
func find(n node, row []byte) ([]byte, bool) {
	switch n := n.(type) {
	case leaf:
		if bytes.Equal(n.rest, row) {
			return n.value, true
		}
	case extension:
		if rest, ok := bytes.CutPrefix(row, n.path); ok {
			return find(n.next, rest)
		}
	case branch:
		if len(row) == 0 {
			return n.value, len(n.value) > 0
		}
		return find(n.next[row[0]], row[1:])
	}
	return nil, false
}

// put tells the node with a value under a row, in the place of the one that is there.
func put(n node, row, value []byte) node {
	switch n := n.(type) {
	case leaf:
		if bytes.Equal(n.rest, row) {
			return leaf{rest: row, value: value}
		}
		shared := nibble.Common(n.rest, row)
		fork := put(branch{}, n.rest[shared:], n.value)
		return behind(row[:shared], put(fork, row[shared:], value))
	case extension:
		shared := nibble.Common(n.path, row)
		if shared == len(n.path) {
			return extension{path: n.path, next: put(n.next, row[shared:], value)}
		}
		var fork branch
		fork.next[n.path[shared]] = behind(n.path[shared+1:], n.next)
		return behind(row[:shared], put(fork, row[shared:], value))
	case branch:
		if len(row) == 0 {
			n.value = value
		} else {
			n.next[row[0]] = put(n.next[row[0]], row[1:], value)
		}
		return n
	}
	return leaf{rest: row, value: value}
}

// remove tells the node without the value under a row, which must be there.
func remove(n node, row []byte) node {
	switch n := n.(type) {
	case extension:
		return behind(n.path, remove(n.next, row[len(n.path):]))
	case branch:
		if len(row) == 0 {
			n.value = nil
		} else {
			n.next[row[0]] = remove(n.next[row[0]], row[1:])
		}
		return shrunk(n)
	}
	return nil
}

// shrunk tells the node of what is left in a branch: a leaf or an extension, if that is one thing alone.
func shrunk(b branch) node {
	count, last := 0, 0
	for v, next := range b.next {
		if next != nil {
			count, last = count+1, v
		}
	}
	switch {
	case count == 0:
		return leaf{value: b.value}
	case count == 1 && len(b.value) == 0:
		return behind([]byte{byte(last)}, b.next[last])
	}
	return b
}

// behind tells the node of the keys that go on by a path ahead of a node. A leaf and an extension take the path into their own.
func behind(path []byte, n node) node {
	if len(path) == 0 {
		return n
	}
	switch n := n.(type) {
	case leaf:
		return leaf{rest: slices.Concat(path, n.rest), value: n.value}
	case extension:
		return extension{path: slices.Concat(path, n.path), next: n.next}
	}
	return extension{path: path, next: n}
}

// rowsOf gives the rows and values of a node's keys, by rising rows. They are those that are kept.
func rowsOf(n node) iter.Seq2[[]byte, []byte] {
	return func(yield func(row, value []byte) bool) {
		walk(n, nil, yield)
	}
}

// walk yields what a node holds, to which a row has led, and tells whether to go on. A key that ends in a branch comes ahead of those that it begins.
func walk(n node, row []byte, yield func(row, value []byte) bool) bool {
	switch n := n.(type) {
	case leaf:
		return yield(slices.Concat(row, n.rest), n.value)
	case extension:
		return walk(n.next, slices.Concat(row, n.path), yield)
	case branch:
		if len(n.value) > 0 && !yield(row, n.value) {
			return false
		}
		for v, next := range n.next {
			if !walk(next, slices.Concat(row, []byte{byte(v)}), yield) {
				return false
			}
		}
	}
	return true
}
