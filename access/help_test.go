package access_test

import (
	"bytes"
	"encoding/hex"
	"math/big"
	"slices"
	"strings"
	"testing"

	"waybill/address"
	"waybill/api"
	"waybill/chance"
	"waybill/ecdsa"
	"waybill/keccak"
)

const most = 1<<64 - 1 // the greatest limb, and the greatest nonce

var (
	top     = api.U256{most, most, most, most} // 2^256 - 1
	nobody  = api.Address{}
	noAuth  = api.Auth{}
	nothing = api.Item{}
)

// digits reads bytes in hexadecimal digits, blanks between them or not.
func digits(s string) []byte {
	b, err := hex.DecodeString(strings.ReplaceAll(s, " ", ""))
	if err != nil {
		panic("not digits: " + s)
	}
	return b
}

// wide tells x for math/big, narrow goes back: limb by limb, as the document's Words have a number.

func wide(x api.U256) *big.Int {
	n := new(big.Int)
	for _, limb := range slices.Backward(x[:]) {
		n.Lsh(n, 64).Add(n, new(big.Int).SetUint64(limb))
	}
	return n
}

func narrow(n *big.Int) api.U256 {
	if n.Sign() < 0 || n.BitLen() > 256 {
		panic("not below 2^256: " + n.String())
	}
	var x api.U256
	for i := range x {
		x[i] = new(big.Int).Rsh(n, uint(64*i)).Uint64()
	}
	return x
}

func order() *big.Int {
	return new(big.Int).SetBytes(digits("fffffffffffffffffffffffffffffffebaaedce6af48a03bbfd25e8cd0364141"))
}

// half is the greatest s that is low.
func half() *big.Int { return new(big.Int).Rsh(order(), 1) }

// near tells m and v more, or less, if v is below 0.
func near(m *big.Int, v int64) api.U256 { return narrow(new(big.Int).Add(m, big.NewInt(v))) }

func text(b ...byte) api.Item { return api.Item{Data: b} }

func list(items ...api.Item) api.Item { return api.Item{List: true, Items: items} }

// same tells whether two trees are the same; nil and empty are (P0.4).
func same(a, b api.Item) bool {
	return a.List == b.List && bytes.Equal(a.Data, b.Data) && slices.EqualFunc(a.Items, b.Items, same)
}

func sameEntry(a, b api.AccessEntry) bool {
	return a.Address == b.Address && slices.Equal(a.Keys, b.Keys)
}

func sameEntries(a, b []api.AccessEntry) bool { return slices.EqualFunc(a, b, sameEntry) }

// The models follow the chapter's words, with items made by hand. Digests, signatures and the addresses of points are layer 2's, 6's and 9's, which have tests of their own.

func modelHead(first byte, n int) []byte {
	if n <= 55 {
		return []byte{first + byte(n)}
	}
	length := big.NewInt(int64(n)).Bytes()
	return append([]byte{first + 0x37 + byte(len(length))}, length...)
}

func modelBytes(it api.Item) []byte {
	if !it.List {
		if len(it.Data) == 1 && it.Data[0] < 0x80 {
			return []byte{it.Data[0]}
		}
		return append(modelHead(0x80, len(it.Data)), it.Data...)
	}
	var held []byte
	for _, inner := range it.Items {
		held = append(held, modelBytes(inner)...)
	}
	return append(modelHead(0xc0, len(held)), held...)
}

// modelSize tells how many bytes that are.
func modelSize(it api.Item) int {
	if !it.List {
		return len(modelBytes(it))
	}
	held := 0
	for _, inner := range it.Items {
		held += modelSize(inner)
	}
	return len(modelHead(0xc0, held)) + held
}

// modelFit is an item, or ErrLong.
func modelFit(it api.Item) (api.Item, api.Errno) {
	if modelSize(it) > 16777216 {
		return nothing, api.ErrLong
	}
	return it, api.OK
}

func entryTree(entry api.AccessEntry) api.Item {
	keys := list()
	for _, key := range entry.Keys {
		keys.Items = append(keys.Items, text(key[:]...))
	}
	return list(text(entry.Address[:]...), keys)
}

func treeOf(entries []api.AccessEntry) api.Item {
	whole := list()
	for _, entry := range entries {
		whole.Items = append(whole.Items, entryTree(entry))
	}
	return whole
}

func modelItem(entries []api.AccessEntry) (api.Item, api.Errno) { return modelFit(treeOf(entries)) }

// modelParse reads what it can of an item, whatever that is, and takes it if the item is that of what was read.
func modelParse(it api.Item) ([]api.AccessEntry, api.Errno) {
	var all []api.AccessEntry
	for _, inner := range it.Items {
		var entry api.AccessEntry
		if len(inner.Items) == 2 {
			copy(entry.Address[:], inner.Items[0].Data)
			for _, it := range inner.Items[1].Items {
				var key api.Hash
				copy(key[:], it.Data)
				entry.Keys = append(entry.Keys, key)
			}
		}
		all = append(all, entry)
	}
	if !same(it, treeOf(all)) {
		return nil, api.ErrAccess
	}
	return all, api.OK
}

func modelCount(entries []api.AccessEntry) (addresses, keys int) {
	for _, entry := range entries {
		addresses++
		for range entry.Keys {
			keys++
		}
	}
	return addresses, keys
}

func modelWarm(entries []api.AccessEntry, a api.Address, key api.Hash) (address, storage bool) {
	for _, entry := range entries {
		for _, own := range entry.Keys {
			storage = storage || entry.Address == a && own == key
		}
		address = address || entry.Address == a
	}
	return address, storage
}

func scalar(n *big.Int) api.Item { return text(n.Bytes()...) }

func small(v uint64) api.Item { return scalar(new(big.Int).SetUint64(v)) }

func authTree(auths []api.Auth) api.Item {
	whole := list()
	for _, a := range auths {
		whole.Items = append(whole.Items, list(scalar(wide(a.Chain)), text(a.Address[:]...), small(a.Nonce), small(a.Parity), scalar(wide(a.R)), scalar(wide(a.S))))
	}
	return whole
}

func modelAuthItem(auths []api.Auth) (api.Item, api.Errno) {
	for _, a := range auths {
		if a.Parity > 255 {
			return nothing, api.ErrAuth
		}
	}
	return modelFit(authTree(auths))
}

// modelParseAuth does as modelParse: of a number that is too long it reads the lowest bytes, and what it makes of them is another item.
func modelParseAuth(it api.Item) ([]api.Auth, api.Errno) {
	var all []api.Auth
	for _, inner := range it.Items {
		var a api.Auth
		if len(inner.Items) == 6 {
			number := func(i int) api.U256 {
				data := inner.Items[i].Data
				return narrow(new(big.Int).SetBytes(data[max(0, len(data)-32):]))
			}
			a.Chain, a.Nonce, a.Parity, a.R, a.S = number(0), number(2)[0], number(3)[0], number(4), number(5)
			copy(a.Address[:], inner.Items[1].Data)
		}
		all = append(all, a)
	}
	tooWide := slices.ContainsFunc(all, func(a api.Auth) bool { return a.Parity > 255 })
	if tooWide || !same(it, authTree(all)) {
		return nil, api.ErrAuth
	}
	return all, api.OK
}

func modelDigest(a api.Auth) api.Hash {
	it := list(scalar(wide(a.Chain)), text(a.Address[:]...), small(a.Nonce))
	return keccak.Sum(append([]byte{5}, modelBytes(it)...))
}

func modelSign(a api.Auth, key api.U256) (api.Auth, api.Errno) {
	if a.Nonce == most {
		return noAuth, api.ErrAuth
	}
	s, e := ecdsa.Sign(key, modelDigest(a))
	if e != api.OK {
		return noAuth, e
	}
	signed := api.Auth{Chain: a.Chain, Address: a.Address, Nonce: a.Nonce, R: s.R, S: s.S}
	if s.Odd {
		signed.Parity = 1
	}
	return signed, api.OK
}

func modelAuthority(a api.Auth) (api.Address, api.Errno) {
	if a.Parity > 1 || a.Nonce == most {
		return nobody, api.ErrAuth
	}
	key, e := ecdsa.Recover(modelDigest(a), api.Sig{R: a.R, S: a.S, Odd: a.Parity == 1})
	if e != api.OK {
		return nobody, e
	}
	return address.OfPoint(key)
}

// anyAddress and anyKey tell one by chance, often one that stands elsewhere too, or one with zeros ahead or behind.

func anyAddress(row *chance.Row) api.Address {
	if row.Below(2) == 0 {
		return api.Address{0: byte(row.Below(2)), 19: byte(row.Below(3))}
	}
	return api.Address(row.Text(20))
}

func anyKey(row *chance.Row) api.Hash {
	if row.Below(2) == 0 {
		return api.Hash{0: byte(row.Below(2)), 31: byte(row.Below(3))}
	}
	return api.Hash(row.Text(32))
}

func anyEntries(row *chance.Row, most int) []api.AccessEntry {
	var all []api.AccessEntry
	for range row.Below(most + 1) {
		entry := api.AccessEntry{Address: anyAddress(row)}
		for range row.Below(most + 1) {
			entry.Keys = append(entry.Keys, anyKey(row))
		}
		all = append(all, entry)
	}
	return all
}

// anySmall tells a number of any length up to 64 bits.
func anySmall(row *chance.Row) uint64 { return row.Next() >> row.Below(65) }

func anyAuth(row *chance.Row) api.Auth {
	return api.Auth{Chain: row.Number(), Address: anyAddress(row), Nonce: anySmall(row), Parity: uint64(row.Below(256)) >> row.Below(9), R: row.Number(), S: row.Number()}
}

func anyAuths(row *chance.Row, most int) []api.Auth {
	var all []api.Auth
	for range row.Below(most + 1) {
		all = append(all, anyAuth(row))
	}
	return all
}

// changes are what an item may become by one step: most of them are wrong where it stands.
func changes(it api.Item) []api.Item {
	turned := it
	turned.List = !it.List
	withData, withItem, bare := it, it, it
	withData.Data = append([]byte{1}, it.Data...)
	withItem.Items = append([]api.Item{text()}, it.Items...)
	bare.Data, bare.Items = nil, nil
	all := []api.Item{turned, withData, withItem, bare, list(it), text(), list(), text(0), text(1), text(1, 0), text(make([]byte, 20)...), text(make([]byte, 32)...), text(bytes.Repeat([]byte{0xff}, 32)...), text(bytes.Repeat([]byte{0xff}, 33)...)}
	if n := len(it.Data); n > 0 {
		for _, data := range [][]byte{it.Data[1:], it.Data[:n-1], append([]byte{0}, it.Data...), append(slices.Clone(it.Data), 0), append([]byte{0}, it.Data[1:]...), append([]byte{0}, it.Data[:n-1]...)} {
			twin := it
			twin.Data = data
			all = append(all, twin)
		}
	}
	if n := len(it.Items); n > 0 {
		swapped := slices.Clone(it.Items)
		swapped[0], swapped[n-1] = swapped[n-1], swapped[0]
		for _, items := range [][]api.Item{it.Items[1:], it.Items[:n-1], append(slices.Clone(it.Items), it.Items[n-1]), append(slices.Clone(it.Items), list()), swapped} {
			twin := it
			twin.Items = items
			all = append(all, twin)
		}
		all = append(all, it.Items[0], it.Items[n-1])
	}
	return all
}

// eachChange hands over a tree with each item anywhere in it changed in each way, one at a time.
func eachChange(it api.Item, f func(api.Item)) {
	for _, other := range changes(it) {
		f(other)
	}
	for i, inner := range it.Items {
		eachChange(inner, func(other api.Item) { f(replaced(it, i, other)) })
	}
}

// replaced tells a tree with another item at a place of its own list.
func replaced(it api.Item, i int, other api.Item) api.Item {
	it.Items = slices.Clone(it.Items)
	it.Items[i] = other
	return it
}

// spoilt changes an item by chance, somewhere in the tree.
func spoilt(row *chance.Row, it api.Item) api.Item {
	if len(it.Items) > 0 && row.Below(4) > 0 {
		i := row.Below(len(it.Items))
		return replaced(it, i, spoilt(row, it.Items[i]))
	}
	all := changes(it)
	return all[row.Below(len(all))]
}

// parted tells how often a and b are to be added to have a sum.
func parted(sum, a, b int) (times, others int) {
	for ; sum%a != 0; sum -= b {
		others++
	}
	if sum < 0 {
		panic("no such sum")
	}
	return sum / a, others
}

// The helpers themselves: an error in them would hide one in the program.
func TestHelpers(t *testing.T) {
	row := chance.Row(1400)
	for range 200 {
		if x := row.Number(); narrow(wide(x)) != x {
			t.Errorf("%x is not there and back", x)
		}
	}
	if got := modelBytes(list(text('c', 'a', 't'), text(), text(0x7f), text(0x80), list())); !bytes.Equal(got, digits("c9 83636174 80 7f 8180 c0")) {
		t.Errorf("modelBytes: %x", got)
	}
	for range 100 {
		a, b := treeOf(anyEntries(&row, 5)), authTree(anyAuths(&row, 5))
		if modelSize(a) != len(modelBytes(a)) || modelSize(b) != len(modelBytes(b)) {
			t.Error("modelSize")
		}
	}
	trees := []api.Item{text(), text(1), text(2), list(), list(list()), list(text(1)), list(text(1), text(2)), {Data: []byte{1}, Items: []api.Item{text(1)}}, {List: true, Data: []byte{1}, Items: []api.Item{text(1)}}}
	for i, a := range trees {
		for j, b := range trees {
			if same(a, b) != (i == j) {
				t.Errorf("same(%v, %v)", a, b)
			}
		}
	}
	tree, before := treeOf([]api.AccessEntry{{Keys: []api.Hash{{1}}}}), treeOf([]api.AccessEntry{{Keys: []api.Hash{{1}}}})
	steps, alike := 0, 0
	eachChange(tree, func(other api.Item) {
		steps++
		if same(other, tree) {
			alike++
		}
	})
	if steps < 100 || alike > steps/10 || !same(tree, before) {
		t.Errorf("eachChange: %d steps, %d change nothing, or the tree has changed", steps, alike)
	}
	if times, others := parted(1210, 23, 56); times*23+others*56 != 1210 {
		t.Errorf("parted: %d, %d", times, others)
	}
	if wide(near(half(), 0)).Text(16) != "7fffffffffffffffffffffffffffffff5d576e7357a4501ddfe92f46681b20a0" {
		t.Error("half")
	}
}
