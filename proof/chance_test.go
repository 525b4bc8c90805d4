package proof_test

import (
	"bytes"
	"slices"
	"testing"

	"waybill/api"
	"waybill/chance"
	"waybill/keccak"
)

// wild makes nodes of all forms by chance, some of them broken, that hang together by their hashes.
type wild struct {
	row   *chance.Row
	oneIn int      // of so many things one is broken
	nodes [][]byte // those that are told by their hashes
}

func (w *wild) broken() bool { return w.row.Below(w.oneIn) == 0 }

// packed tells a path of few kinds of nibbles, so that keys go by it.
func (w *wild) packed(least int, last bool) api.Item {
	if w.broken() {
		least = 0
	}
	nibbles := make([]byte, least+w.row.Below(3))
	for i := range nibbles {
		nibbles[i] = [...]byte{0, 1, 15}[w.row.Below(3)]
	}
	head := byte(len(nibbles) % 2 * 0x10)
	if last {
		head += 0x20
	}
	if len(nibbles)%2 == 1 {
		head += nibbles[0]
		nibbles = nibbles[1:]
	}
	if w.broken() {
		head += byte(w.row.Below(16)) * 0x10
	}
	if w.broken() {
		head++
	}
	b := []byte{head}
	for i := 0; i < len(nibbles); i += 2 {
		b = append(b, nibbles[i]<<4|nibbles[i+1])
	}
	if w.broken() {
		b = b[1:]
	}
	if w.broken() {
		return listOf(text(b...))
	}
	return text(b...)
}

// value tells a leaf's or a branch's value.
func (w *wild) value() api.Item {
	switch {
	case w.broken():
		return text()
	case w.broken():
		return listOf()
	case w.row.Below(4) == 0:
		return text(w.row.Text(20 + w.row.Below(20))...)
	}
	return text(w.row.Text(1 + w.row.Below(3))...)
}

func (w *wild) node(depth int) api.Item {
	switch kind := w.row.Below(5); {
	case depth <= 0 || kind == 0:
		return listOf(w.packed(0, true), w.value())
	case kind == 1:
		next := w.branch(depth - 1)
		if w.broken() {
			next = w.node(depth - 1)
		}
		return listOf(w.packed(1, false), w.link(next))
	}
	return w.branch(depth)
}

func (w *wild) branch(depth int) api.Item {
	it := branchOf()
	for range 2 + w.row.Below(3) {
		if w.row.Below(4) == 0 {
			it.Items[16] = w.value()
		} else {
			it.Items[[...]int{0, 1, 15, 7}[w.row.Below(4)]] = w.link(w.node(depth - 1))
		}
	}
	switch {
	case w.broken():
		it.Items = it.Items[:16]
	case w.broken():
		it.Items = append(it.Items, text())
	}
	return it
}

// link tells the link to a node, which is kept if it is told by its hash.
func (w *wild) link(it api.Item) api.Item {
	if w.broken() {
		return [...]api.Item{text(), listOf(), text(1), text(w.row.Text(31)...), text(w.row.Text(33)...), text(w.row.Text(32)...)}[w.row.Below(6)]
	}
	b := w.bytes(it)
	if len(b) < 32 && w.row.Below(8) != 0 || w.broken() {
		return it
	}
	w.nodes = append(w.nodes, b)
	return hashed(b)
}

// bytes tells a node's bytes, sometimes spoilt ones.
func (w *wild) bytes(it api.Item) []byte {
	b := bytes.Clone(written(it))
	switch {
	case w.broken():
		b = spoilt(w.row, b)
	case w.broken():
		b = append(b, byte(w.row.Next()))
	case w.broken():
		b = b[:len(b)-1]
	case w.broken() && b[0] < 0xf8: // a longer head than it needs
		b = slices.Concat([]byte{0xf8, b[0] - 0xc0}, b[1:])
	}
	return b
}

// spoilt tells a text with one byte changed.
func spoilt(row *chance.Row, b []byte) []byte {
	b = bytes.Clone(b)
	if len(b) > 0 {
		b[row.Below(len(b))] ^= byte(1 + row.Below(255))
	}
	return b
}

// key tells a key that goes by the paths above.
func (w *wild) key() []byte {
	b := make([]byte, w.row.Below(4))
	for i := range b {
		b[i] = [...]byte{0x00, 0x01, 0x0f, 0x10, 0x11, 0x1f, 0xf0, 0xf1, 0xff}[w.row.Below(9)]
	}
	return b
}

// asked tells the nodes that a key's way asks for, in their order.
func (w *wild) asked(root api.Hash, key []byte) [][]byte {
	var list [][]byte
	find := inAnyOrder(w.nodes, make([]bool, len(w.nodes)))
	way := modelWay{ask: func(hash api.Hash) ([]byte, api.Errno) {
		b, e := find(hash)
		if e == api.OK {
			list = append(list, b)
		}
		return b, e
	}}
	way.of(root, key)
	return list
}

// shaken tells nodes of which some were left out, doubled, changed, or laid elsewhere.
func (w *wild) shaken(nodes [][]byte) [][]byte {
	nodes = slices.Clone(nodes)
	if len(nodes) == 0 {
		return [][]byte{w.row.Text(w.row.Below(3))}
	}
	i := w.row.Below(len(nodes))
	switch w.row.Below(6) {
	case 0:
		return slices.Delete(nodes, i, i+1)
	case 1:
		return slices.Insert(nodes, w.row.Below(len(nodes)+1), nodes[i])
	case 2:
		nodes[i] = spoilt(w.row, nodes[i])
	case 3:
		nodes[i], nodes[0] = nodes[0], nodes[i]
	case 4:
		return append(nodes, w.row.Text(w.row.Below(40)))
	case 5:
		return slices.Insert(nodes, i, w.nodes[w.row.Below(len(w.nodes))])
	}
	return nodes
}

// once tells nodes without those that stand there already.
func once(nodes [][]byte) [][]byte {
	var all [][]byte
	for _, b := range nodes {
		if !slices.ContainsFunc(all, func(other []byte) bool { return bytes.Equal(b, other) }) {
			all = append(all, b)
		}
	}
	return all
}

// P13.2, P13.4, P13.5: nodes of all forms, sound and broken, against the model.
func TestByChance(t *testing.T) {
	row := chance.Row(1300)
	single, several, need := map[api.Errno]int{}, map[api.Errno]int{}, map[api.Errno]int{}
	lacking, values := 0, map[int]int{}
	for i := range 4000 {
		w := wild{row: &row, oneIn: []int{1 << 30, 300, 60, 20}[i%4]}
		first := w.bytes(w.node(5))
		w.nodes = append(w.nodes, first)
		root := keccak.Sum(first)
		var keys, all [][]byte
		for range 5 {
			key := w.key()
			nodes := w.asked(root, key)
			e := checkVerify(t, root, key, nodes)
			single[e]++
			if e == api.OK {
				values[len(nodes)]++
			}
			single[checkVerify(t, root, key, w.shaken(nodes))]++
			keys, all = append(keys, key), append(all, nodes...)
			for _, some := range [][][]byte{w.nodes, w.shaken(nodes), w.shaken(w.nodes)} {
				needs, e := checkNeed(t, root, key, some)
				need[e]++
				if needs {
					lacking++
				}
			}
		}
		all = once(all)
		slices.Reverse(all)
		several[checkCheck(t, root, keys, all)]++
		several[checkCheck(t, root, keys, w.shaken(all))]++
		several[checkCheck(t, root, keys[:2], all)]++
	}
	for _, e := range []api.Errno{api.OK, api.ErrProofShort, api.ErrProofHash, api.ErrProofNode, api.ErrProofRest} {
		if single[e] < 100 || several[e] < 100 && e != api.ErrProofHash {
			t.Errorf("the error %d is met %d times by Verify, %d times by Check", e, single[e], several[e])
		}
	}
	if need[api.OK] < 100 || need[api.ErrProofNode] < 100 || lacking < 100 || values[1] < 100 || values[2] < 100 || values[3] < 100 {
		t.Errorf("Need: %v, %d lack one; proofs of so many nodes: %v", need, lacking, values)
	}
}

// P13.2: each byte of a sound node changed to each other one, cut off, or put in: the root is that of what came of it.
func TestSpoiltNodes(t *testing.T) {
	tiny := listOf(text(0x20), text(1))
	twig := branchOf(tiny)
	twig.Items[16] = text(2)
	sound := [][]byte{
		unhex("c5 83 20 12 34 76"), written(listOf(text(0x31), text([]byte(long)...))), stem, fork,
		written(listOf(text(0x11), branchOf(tiny, tiny))), written(branchOf(tiny, listOf(text(0x11), twig), tiny)),
	}
	count := map[api.Errno]int{}
	for _, b := range sound {
		for _, key := range []string{"\x12\x34", "\x10", ""} {
			checkVerify(t, keccak.Sum(b), []byte(key), [][]byte{b})
		}
		for i := range b {
			for v := range 256 {
				other := bytes.Clone(b)
				other[i] = byte(v)
				count[checkVerify(t, keccak.Sum(other), []byte{0x12, 0x34}, [][]byte{other})]++
			}
			cut := slices.Concat(b[:i], b[i+1:])
			count[checkVerify(t, keccak.Sum(cut), []byte{0x12, 0x34}, [][]byte{cut})]++
			for _, v := range []byte{0x00, 0x01, 0x20, 0x7f, 0x80, 0xc0} {
				more := slices.Insert(bytes.Clone(b), i, v)
				count[checkVerify(t, keccak.Sum(more), []byte{0x12, 0x34}, [][]byte{more})]++
			}
		}
	}
	if count[api.OK] < 100 || count[api.ErrProofNode] < 100 || count[api.ErrProofShort] < 100 {
		t.Errorf("so often each error: %v", count)
	}
}

// P13.2: all texts of one and two bytes, and all lists of two single bytes.
func TestShortTexts(t *testing.T) {
	for v := range 1 << 16 {
		pair := []byte{byte(v >> 8), byte(v)}
		checkVerify(t, keccak.Sum(pair), nil, [][]byte{pair})
		two := append([]byte{0xc2}, pair...)
		checkVerify(t, keccak.Sum(two), nil, [][]byte{two})
		if v < 256 {
			one := []byte{byte(v)}
			checkVerify(t, keccak.Sum(one), nil, [][]byte{one})
		}
	}
}
