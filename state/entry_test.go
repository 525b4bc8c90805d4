package state_test

import (
	"bytes"
	"slices"
	"strings"
	"testing"

	"waybill/api"
	"waybill/chance"
	"waybill/keccak"
	"waybill/proof"
	"waybill/state"
	"waybill/trie"
)

// bare is the entry of the chapter's sixth example.
func bare() api.Account { return api.Account{Storage: hashOf(emptyRoot), Code: hashOf(emptyCode)} }

// anyEntry tells an entry by chance: a state need not have such accounts.
func anyEntry(row *chance.Row) api.Account {
	a := api.Account{Nonce: row.Next() >> row.Below(64), Balance: row.Number(), Storage: api.Hash(row.Text(32)), Code: api.Hash(row.Text(32))}
	switch row.Below(6) {
	case 0:
		a.Nonce = 0
	case 1:
		a.Nonce = lastNonce
	case 2:
		a.Balance = top
	case 3:
		a.Balance, a.Storage, a.Code = small(0), api.Hash{}, api.Hash{}
	}
	return a
}

// P21.11: the chapter's sixth example, and the shortest and the longest entry.
func TestItem(t *testing.T) {
	want := "f844 80 80 a0" + emptyRoot + "a0" + emptyCode
	if got, e := state.Item(bare()); !bytes.Equal(got, unhex(want)) || len(got) != 70 || e != api.OK {
		t.Errorf("Item = %x, %d", got, e)
	}
	zeros, ones := strings.Repeat("00", 32), strings.Repeat("ff", 32)
	if got, e := state.Item(api.Account{}); !bytes.Equal(got, unhex("f844 80 80 a0"+zeros+"a0"+zeros)) || e != api.OK {
		t.Errorf("Item of the zero Account = %x, %d", got, e)
	}
	if got, e := state.Item(api.Account{Nonce: lastNonce, Balance: top, Storage: hashOf(ones), Code: hashOf(ones)}); !bytes.Equal(got, unhex("f86c 88ffffffffffffffff a0"+ones+"a0"+ones+"a0"+ones)) || e != api.OK {
		t.Errorf("Item of the longest entry = %x, %d", got, e)
	}
}

// P21.11: there and back, entries at all edges and by chance.
func TestThereAndBack(t *testing.T) {
	row := chance.Row(2150)
	var entries []api.Account
	for _, v := range edges() {
		entries = append(entries, api.Account{Balance: v}, api.Account{Nonce: v[0], Code: api.Hash{1}}, api.Account{Nonce: v[0] - 1, Balance: v, Storage: api.Hash{31: 1}})
	}
	for range 2000 {
		entries = append(entries, anyEntry(&row))
	}
	for _, a := range entries {
		data, e := state.Item(a)
		if e != api.OK || !bytes.Equal(data, modelItem(a)) {
			t.Fatalf("Item(%+v) = %x, %d", a, data, e)
		}
		if got, e := state.Parse(data); got != a || e != api.OK {
			t.Fatalf("Parse(%x) = %+v, %d, want %+v", data, got, e, a)
		}
	}
}

// checkParse holds Parse of a text against the model, and what is taken against Item.
func checkParse(t *testing.T, data []byte) api.Errno {
	t.Helper()
	want, wantE := modelParse(data)
	got, e := state.Parse(data)
	if got != want || e != wantE {
		t.Fatalf("Parse(%x) = %+v, %d, want %+v, %d", data[:min(len(data), 200)], got, e, want, wantE)
	}
	if e == api.OK {
		if again, _ := state.Item(got); !bytes.Equal(again, data) {
			t.Fatalf("Parse takes %x, whose bytes are %x", data, again)
		}
	}
	return e
}

// P21.11: each byte of an entry's bytes as each other one, taken out, or twice; each front and each end of them.
func TestParseSpoilt(t *testing.T) {
	row := chance.Row(2151)
	taken, refused := 0, 0
	for _, a := range []api.Account{bare(), {}, {Nonce: 1, Balance: small(0x80)}, {Nonce: lastNonce, Balance: top}, {Nonce: 0x80, Balance: api.U256{1: 1}}, anyEntry(&row)} {
		data := modelItem(a)
		texts := [][]byte{nil, slices.Concat(data, data)}
		for i := range data {
			for v := range 256 {
				spoilt := bytes.Clone(data)
				spoilt[i] = byte(v)
				texts = append(texts, spoilt)
				if i < 12 { // with the length that fits: so the fields themselves are looked at
					more := slices.Insert(bytes.Clone(data), i, byte(v))
					more[1]++
					texts = append(texts, more)
				}
			}
			fewer := slices.Delete(bytes.Clone(data), i, i+1)
			texts = append(texts, data[:i], data[i+1:], fewer, slices.Insert(bytes.Clone(data), i, data[i]))
			if i > 1 {
				fewer = bytes.Clone(fewer)
				fewer[1]--
				texts = append(texts, fewer)
			}
		}
		for _, text := range texts {
			if checkParse(t, text) == api.OK {
				taken++
			} else {
				refused++
			}
		}
	}
	if taken < 1000 || refused < 1000 {
		t.Errorf("%d taken, %d refused", taken, refused)
	}
}

// P21.11: wrong fields, each in bytes that are an item of their own in right form.
func TestParseForms(t *testing.T) {
	hash := "a0" + strings.Repeat("11", 32)
	long := "a1" + strings.Repeat("11", 33)
	short := "9f" + strings.Repeat("11", 31)
	list := func(parts ...string) []byte {
		held := unhex(strings.Join(parts, ""))
		if len(held) > 255 {
			return slices.Concat([]byte{0xf9, byte(len(held) >> 8), byte(len(held))}, held)
		}
		if len(held) > 55 {
			return slices.Concat([]byte{0xf8, byte(len(held))}, held)
		}
		return slices.Concat([]byte{0xc0 + byte(len(held))}, held)
	}
	text := func(b []byte) []byte { return slices.Concat([]byte{0xb8, byte(len(b))}, b) }
	right := list("05", "06", hash, hash)
	if checkParse(t, right) != api.OK {
		t.Fatal("an entry is refused")
	}
	wrong := [][]byte{
		nil, {}, {0x80}, {0xc0}, {0x00}, {0x05}, {0xf8}, {0xff}, text(right), list("f844", "80", "80", hash, hash),
		list("05", "06", hash), list("05", hash, hash), list("05", "06", hash, hash, "80"), list("05", "06", hash, hash, hash), list("05", "06", "07", "08"), list("80", "80", "80", "80"), list("c0", "c0", "c0", "c0"),
		list("00", "06", hash, hash), list("05", "00", hash, hash), list("820005", "06", hash, hash), list("05", "820005", hash, hash), list("8105", "06", hash, hash), list("05", "8105", hash, hash),
		list("89010000000000000000", "06", hash, hash), list("89000000000000000001", "06", hash, hash), list("05", "a1"+"01"+strings.Repeat("00", 32), hash, hash), list(hash, "06", hash, hash),
		list("05", "06", short, hash), list("05", "06", hash, short), list("05", "06", long, hash), list("05", "06", hash, long), list("05", "06", "80", hash), list("05", "06", hash, "80"),
		list("c0", "06", hash, hash), list("05", "c0", hash, hash), list("05", "06", "c0", hash), list("05", "06", hash, "c0"), list("c105", "06", hash, hash), list("05", "c106", hash, hash), list("05", "06", "e1"+hash, hash), list("05", "06", hash, "e1"+hash),
		list("05", "06", "b820"+hash[2:], hash), list("05", "06", hash, "b820"+hash[2:]), list("b805"+"0102030405", "06", hash, hash),
		append(list("05", "06", hash, hash), 0), append(list("05", "06", hash, hash), right...), right[:len(right)-1], slices.Concat([]byte{0xf9, 0}, right[1:]), list("05", "06", hash, hash, "c0"), right[2:],
		list(strings.Repeat("80", 200), hash, hash),
	}
	for _, data := range wrong {
		if got, e := state.Parse(data); got != (api.Account{}) || e != api.ErrStForm {
			t.Errorf("Parse(%x) = %+v, %d", data, got, e)
		}
		checkParse(t, data)
	}
	for _, data := range [][]byte{list("80", "80", hash, hash), list("7f", "8180", hash, hash), list("88ffffffffffffffff", "a0"+strings.Repeat("ff", 32), hash, hash)} {
		if checkParse(t, data) != api.OK {
			t.Errorf("Parse(%x) is refused", data)
		}
	}
}

// P21.11, P0.7: too many bytes, and just as many as may be, among them texts that are items and lists that are deep.
func TestParseLong(t *testing.T) {
	over := make([]byte, api.MaxInput+1)
	copy(over, modelItem(bare()))
	deep := bytes.Repeat([]byte{0xc0}, api.MaxInput)
	text := append([]byte{0xba, 0xff, 0xff, 0xfc}, make([]byte, api.MaxInput-4)...)
	for i, data := range [][]byte{over[:api.MaxInput], deep, text, append([]byte{0xfa, 0xff, 0xff, 0xfc}, text[4:]...)} {
		if e := checkParse(t, data); e != api.ErrStForm {
			t.Errorf("%d: just MaxInput bytes = %d", i, e)
		}
		if e := checkParse(t, append(data, 0)); e != api.ErrLong {
			t.Errorf("%d: a byte more = %d", i, e)
		}
	}
	if e := checkParse(t, over); e != api.ErrLong {
		t.Errorf("an entry and too much behind it = %d", e)
	}
}

// shown holds Show against proof's Verify and the model's Parse.
func shown(t *testing.T, root api.Hash, a api.Address, nodes [][]byte) api.Errno {
	t.Helper()
	digest := keccak.Sum(a[:])
	value, there, wantE := proof.Verify(root, digest[:], nodes)
	want, is := api.Account{}, false
	if wantE == api.OK && there {
		want, wantE = modelParse(value)
		is = wantE == api.OK
	}
	got, ok, e := state.Show(root, a, nodes)
	if got != want || ok != is || e != wantE {
		t.Fatalf("Show(%x, %x, %d nodes) = %+v, %t, %d, want %+v, %t, %d", root, a, len(nodes), got, ok, e, want, is, wantE)
	}
	return e
}

// shownCell holds ShowStorage against proof's Verify and the model.
func shownCell(t *testing.T, root, key api.Hash, nodes [][]byte) api.Errno {
	t.Helper()
	digest := keccak.Sum(key[:])
	value, there, wantE := proof.Verify(root, digest[:], nodes)
	var want api.U256
	if wantE == api.OK && there {
		want, wantE = modelNumber(value)
	}
	got, e := state.ShowStorage(root, key, nodes)
	if got != want || e != wantE {
		t.Fatalf("ShowStorage(%x, %x, %d nodes) = %v, %d, want %v, %d", root, key, len(nodes), got, e, want, wantE)
	}
	return e
}

// spoilt gives proofs that differ a little from a right one: a byte changed, a node left out, twice, or another one more, some taken away, all in another order.
func spoilt(row *chance.Row, nodes [][]byte) [][][]byte {
	list := [][][]byte{nil, append(slices.Clone(nodes), []byte{0xc0}), append(slices.Clone(nodes), nil), append(slices.Clone(nodes), nodes...), slices.Insert(slices.Clone(nodes), 0, []byte("x"))}
	for i := range nodes {
		list = append(list, nodes[:i], nodes[i+1:], slices.Delete(slices.Clone(nodes), i, i+1), slices.Insert(slices.Clone(nodes), i, nodes[i]))
		changed := slices.Clone(nodes)
		changed[i] = bytes.Clone(nodes[i])
		changed[i][row.Below(len(nodes[i]))] ^= byte(1 + row.Below(255))
		list = append(list, changed)
	}
	backward := slices.Clone(nodes)
	slices.Reverse(backward)
	return append(list, backward)
}

// P21.12, P21.13: proofs of a state's accounts and cells, right ones and spoilt ones, under the right root and others, for the right address and others; all errors of chapter 13 come but for those that can't.
func TestShowSpoilt(t *testing.T) {
	row := chance.Row(2152)
	s := state.New()
	var addresses []api.Address
	var keys []api.Hash
	for range 60 {
		addresses, keys = append(addresses, api.Address(row.Text(20))), append(keys, api.Hash(row.Text(32)))
	}
	for i, a := range addresses[:50] {
		s.Mint(a, small(uint64(i+1)))
		s.Store(addresses[0], keys[i], row.Number())
	}
	seen, cells := map[api.Errno]int{}, map[api.Errno]int{}
	root, storage := s.Root(), s.StorageRoot(addresses[0])
	for i, a := range addresses {
		nodes, numbers := s.Prove(a), s.ProveStorage(addresses[0], keys[i])
		if shown(t, root, a, nodes) != api.OK || shownCell(t, storage, keys[i], numbers) != api.OK {
			t.Fatal("a right proof is refused")
		}
		for _, wrong := range append(spoilt(&row, nodes), nodes) {
			seen[shown(t, root, a, wrong)]++
			seen[shown(t, root, addresses[(i+1)%60], wrong)]++
			seen[shown(t, storage, a, wrong)]++
			seen[shown(t, hashOf(emptyRoot), a, wrong)]++
		}
		for _, wrong := range append(spoilt(&row, numbers), numbers) {
			cells[shownCell(t, storage, keys[i], wrong)]++
			cells[shownCell(t, storage, keys[(i+1)%60], wrong)]++
			cells[shownCell(t, root, keys[i], wrong)]++
			cells[shownCell(t, hashOf(emptyRoot), keys[i], wrong)]++
		}
	}
	for _, e := range []api.Errno{api.OK, api.ErrProofShort, api.ErrProofHash, api.ErrProofRest} {
		if seen[e] == 0 || cells[e] == 0 {
			t.Errorf("the error %d never comes: %v, %v", e, seen, cells)
		}
	}
}

// alone tells the root of a trie that holds one value under the digest of a text, and its one node.
func alone(t *testing.T, text, value []byte) (api.Hash, [][]byte) {
	t.Helper()
	x, digest := trie.New(), keccak.Sum(text)
	if e := x.Put(digest[:], value); e != api.OK {
		t.Fatalf("Put = %d", e)
	}
	return x.Root(), x.Nodes(digest[:])
}

// P21.12: what a trie may hold that no state made: entries without anything, and what is none.
func TestShowForms(t *testing.T) {
	row := chance.Row(2153)
	for _, want := range []api.Account{bare(), {}, {Nonce: lastNonce, Balance: top}, anyEntry(&row)} {
		root, nodes := alone(t, one[:], modelItem(want))
		if got, ok, e := state.Show(root, one, nodes); got != want || !ok || e != api.OK {
			t.Errorf("Show = %+v, %t, %d, want %+v", got, ok, e, want)
		}
		if got, ok, e := state.Show(root, two, nodes); got != (api.Account{}) || ok || e != api.OK {
			t.Errorf("Show of another address = %+v, %t, %d", got, ok, e)
		}
	}
	data := modelItem(bare())
	for _, value := range [][]byte{{0x80}, {0xc0}, {0}, data[:len(data)-1], data[1:], append(data, 0), make([]byte, 1000), slices.Concat([]byte{0xb8, 70}, data)} {
		root, nodes := alone(t, one[:], value)
		if got, ok, e := state.Show(root, one, nodes); got != (api.Account{}) || ok || e != api.ErrStForm {
			t.Errorf("Show of %x = %+v, %t, %d", value, got, ok, e)
		}
		if e := shown(t, root, two, nodes); e != api.OK {
			t.Errorf("of an address that has nothing there: %d", e)
		}
	}
	noNode := []byte{0xc2, 0x20, 0x80}
	if _, ok, e := state.Show(keccak.Sum(noNode), one, [][]byte{noNode}); ok || e != api.ErrProofNode {
		t.Errorf("Show of what is no node = %t, %d", ok, e)
	}
	if v, e := state.ShowStorage(keccak.Sum(noNode), cell, [][]byte{noNode}); v != small(0) || e != api.ErrProofNode {
		t.Errorf("ShowStorage of what is no node = %v, %d", v, e)
	}
	if _, ok, e := state.Show(api.Hash{1}, one, nil); ok || e != api.ErrProofShort {
		t.Errorf("Show of no nodes = %t, %d", ok, e)
	}
	if v, e := state.ShowStorage(api.Hash{1}, cell, nil); v != small(0) || e != api.ErrProofShort {
		t.Errorf("ShowStorage of no nodes = %v, %d", v, e)
	}
}

// P21.13: all texts of one and two bytes, those of three that begin as numbers may, and longer ones.
func TestShowNumbers(t *testing.T) {
	row := chance.Row(2154)
	var values [][]byte
	for v := range 256 {
		values = append(values, []byte{byte(v)})
		for w := range 256 {
			values = append(values, []byte{byte(v), byte(w)})
		}
		values = append(values, []byte{0x82, byte(v), 5}, []byte{0x82, byte(v), 0}, []byte{0x81, 0x80, byte(v)}, []byte{0xc1, byte(v), 0}, append([]byte{0x83, byte(v)}, row.Text(2)...), append([]byte{0x9f + byte(row.Below(3)), byte(v)}, row.Text(31)...), append([]byte{0xa0, byte(v)}, row.Text(31)...), append([]byte{0xb8, 32, byte(v)}, row.Text(31)...))
	}
	for _, x := range edges() {
		b := modelScalar(bigOf(x))
		values = append(values, b, append(bytes.Clone(b), 0), b[:len(b)-1], append([]byte{0x82, 0}, b...), append([]byte{0xc0 + byte(len(b))}, b...))
	}
	counts := map[api.Errno]int{}
	for _, value := range values {
		if len(value) == 0 {
			continue
		}
		root, nodes := alone(t, cell[:], value)
		e := shownCell(t, root, cell, nodes)
		counts[e]++
		if v, e := state.ShowStorage(root, other, nodes); v != small(0) || e != api.OK {
			t.Errorf("a key that has nothing: %v, %d", v, e)
		}
	}
	if counts[api.OK] < 500 || counts[api.ErrStForm] < 500 || len(counts) != 2 {
		t.Errorf("%v", counts)
	}
}

// P21.12, P21.13, P0.7: nodes of too many bytes together, ahead of all else that is wrong; one of just as many as may be.
func TestShowLong(t *testing.T) {
	value := make([]byte, api.MaxInput-42) // the node has 42 bytes beside it
	root, nodes := alone(t, one[:], value)
	if len(nodes) != 1 || len(nodes[0]) != api.MaxInput {
		t.Fatalf("%d nodes, the first one of %d bytes", len(nodes), len(nodes[0]))
	}
	if got, ok, e := state.Show(root, one, nodes); got != (api.Account{}) || ok || e != api.ErrStForm {
		t.Errorf("Show of just MaxInput bytes = %t, %d", ok, e)
	}
	if got, ok, e := state.Show(root, one, append(nodes, []byte{0})); got != (api.Account{}) || ok || e != api.ErrLong {
		t.Errorf("Show of a byte more = %t, %d", ok, e)
	}
	root, nodes = alone(t, cell[:], value)
	if v, e := state.ShowStorage(root, cell, nodes); v != small(0) || e != api.ErrStForm {
		t.Errorf("ShowStorage of just MaxInput bytes = %v, %d", v, e)
	}
	if v, e := state.ShowStorage(api.Hash{}, cell, append(nodes, []byte{0})); v != small(0) || e != api.ErrLong {
		t.Errorf("ShowStorage of a byte more = %v, %d", v, e)
	}
}
