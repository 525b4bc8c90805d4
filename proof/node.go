package proof

import (
	"waybill/api"
	"waybill/nibble"
	"waybill/rlp"
)

const (
	links      = 16 // of a branch, one for each nibble
	withinMost = 31 // bytes of the longest node that stands within another one
)

// place is where a link leads to: a leaf, an extension, a branch, or one of these that must be asked for; nil is nothing.
type place interface{ isPlace() }

// leaf is the node of one key.
type leaf struct {
	rest  []byte // the key's nibbles from here on
	value []byte
}

// extension is the node of keys that go on alike for some nibbles.
type extension struct {
	path []byte
	next place // a branch, or a fork that must be asked for
}

// branch is the node of keys that part here, by their next nibbles.
type branch struct {
	next  [links]place
	value []byte // of the key that ends here; no bytes: none does
}

// asked is a node of which the digest alone is known.
type asked struct {
	digest api.Hash
	fork   bool // it must be a branch
}

func (leaf) isPlace()      {}
func (extension) isPlace() {}
func (branch) isPlace()    {}
func (asked) isPlace()     {}

// read reads the bytes of a node; false: they are none.
func read(b []byte) (place, bool) {
	it, e := rlp.Decode(b)
	if e != api.OK {
		return nil, false
	}
	return nodeOf(it)
}

// nodeOf tells the node that an item is, all of which is looked at. A text has no items, so it is none.
func nodeOf(it api.Item) (place, bool) {
	switch len(it.Items) {
	case 2:
		return pairOf(it.Items[0], it.Items[1])
	case links + 1:
		return branchOf(it.Items[:links], it.Items[links])
	}
	return nil, false
}

// pairOf tells the leaf or the extension that is made of a path and what it leads to.
func pairOf(path, to api.Item) (place, bool) {
	if path.List {
		return nil, false
	}
	row, last, e := nibble.Unpack(path.Data)
	if e != api.OK {
		return nil, false
	}
	if last {
		return leafOf(row, to)
	}
	return extensionOf(row, to)
}

func leafOf(rest []byte, value api.Item) (place, bool) {
	if value.List || len(value.Data) == 0 {
		return nil, false
	}
	return leaf{rest: rest, value: value.Data}, true
}

// extensionOf asks for a branch: one that stands within is looked at here, one behind a digest when it is there.
func extensionOf(path []byte, to api.Item) (place, bool) {
	next, ok := linkOf(to)
	if !ok || len(path) == 0 {
		return nil, false
	}
	switch next := next.(type) {
	case branch:
		return extension{path: path, next: next}, true
	case asked:
		return extension{path: path, next: asked{digest: next.digest, fork: true}}, true
	}
	return nil, false
}

func branchOf(to []api.Item, value api.Item) (place, bool) {
	if value.List {
		return nil, false
	}
	b := branch{value: value.Data}
	filled := 0
	if len(b.value) > 0 {
		filled++
	}
	for v, it := range to {
		next, ok := linkOf(it)
		if !ok {
			return nil, false
		}
		if next != nil {
			filled++
		}
		b.next[v] = next
	}
	if filled < 2 {
		return nil, false
	}
	return b, true
}

// linkOf tells where a link leads to; false: it is none.
func linkOf(it api.Item) (place, bool) {
	if it.List {
		if size, e := rlp.Size(it); e != api.OK || size > withinMost {
			return nil, false
		}
		return nodeOf(it)
	}
	switch len(it.Data) {
	case 0:
		return nil, true
	case len(api.Hash{}):
		return asked{digest: api.Hash(it.Data)}, true
	}
	return nil, false
}

func isBranch(n place) bool {
	_, ok := n.(branch)
	return ok
}
