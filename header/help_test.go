package header_test

import (
	"bytes"
	"encoding/hex"
	"math/big"
	"reflect"
	"slices"
	"strings"
	"testing"

	"waybill/api"
	"waybill/chance"
	"waybill/fees"
	"waybill/keccak"
	"waybill/rlp"
)

const (
	most     = 1<<64 - 1 // the greatest limb
	maxInput = 16777216
	tails    = 5
	blob     = 131072
)

var (
	zero    = api.U256{}
	top     = api.U256{most, most, most, most} // 2^256 - 1
	noHash  = api.Hash{}
	nothing api.Item

	// These three are written down, not reckoned: the Keccak-256 of c0 and of 80, the SHA-256 of no bytes.
	noUncles   = hash("1dcc4de8dec75d7aab85b567b6ccd41ad312451b948a7413f0a142fd40d49347")
	noEntries  = hash("56e81f171bcc55a6ff8345e692c0f86e5b48e01b996cadc001622fb5e363b421")
	noRequests = hash("e3b0c44298fc1c149afbf4c8996fb92427ae41e4649b934ca495991b7852b855")
)

// fieldCounts are the numbers of fields of the tails 0 to 4.
var fieldCounts = [tails]int{15, 16, 17, 20, 21}

// digits reads bytes in hexadecimal digits, blanks between them or not.
func digits(s string) []byte {
	b, err := hex.DecodeString(strings.ReplaceAll(s, " ", ""))
	if err != nil {
		panic("not digits: " + s)
	}
	return b
}

func hash(s string) api.Hash { return api.Hash(digits(s)) }

func text(b ...byte) api.Item { return api.Item{Data: b} }

func list(items ...api.Item) api.Item { return api.Item{List: true, Items: items} }

func filled(b byte, n int) api.Item { return text(bytes.Repeat([]byte{b}, n)...) }

// same tells whether two trees are the same; nil and empty are (P0.4).
func same(a, b api.Item) bool {
	return a.List == b.List && bytes.Equal(a.Data, b.Data) && slices.EqualFunc(a.Items, b.Items, same)
}

func sameHeader(a, b api.Header) bool {
	if !bytes.Equal(a.Extra, b.Extra) {
		return false
	}
	a.Extra, b.Extra = nil, nil
	return reflect.DeepEqual(a, b)
}

func isNoHeader(h api.Header) bool { return sameHeader(h, api.Header{}) }

func short(b []byte) []byte { return b[:min(len(b), 700)] }

func whole(v uint64) *big.Int { return new(big.Int).SetUint64(v) }

// wide tells x for math/big, narrow goes back: limb by limb, as the document's Words have a number.

func wide(x api.U256) *big.Int {
	n := new(big.Int)
	for _, limb := range slices.Backward(x[:]) {
		n.Lsh(n, 64).Add(n, whole(limb))
	}
	return n
}

func narrow(n *big.Int) api.U256 {
	if n.Sign() < 0 || n.BitLen() > 256 {
		panic("not below 2^256: " + n.String())
	}
	var x api.U256
	for i := range x {
		x[i] = new(big.Int).Rsh(n, uint(64*i)).Uint64()
	}
	return x
}

func small(v uint64) api.Item { return text(whole(v).Bytes()...) }

func number(v api.U256) api.Item { return text(wide(v).Bytes()...) }

// The models follow the chapter's words. What the chapter leaves to rlp.Decode and to fees, and digests, have tests of their own.

func modelHead(first byte, n int) []byte {
	if n <= 55 {
		return []byte{first + byte(n)}
	}
	length := big.NewInt(int64(n)).Bytes()
	return append([]byte{first + 0x37 + byte(len(length))}, length...)
}

func modelBytes(it api.Item) []byte {
	if !it.List {
		if len(it.Data) == 1 && it.Data[0] < 0x80 {
			return []byte{it.Data[0]}
		}
		return append(modelHead(0x80, len(it.Data)), it.Data...)
	}
	var held []byte
	for _, inner := range it.Items {
		held = append(held, modelBytes(inner)...)
	}
	return append(modelHead(0xc0, len(held)), held...)
}

func modelCheck(h api.Header) api.Errno {
	if h.Tail < 0 || h.Tail > 4 {
		return api.ErrHdField
	}
	if h.Tail < 1 && h.BaseFee != zero || h.Tail < 2 && h.Withdrawals != noHash || h.Tail < 3 && (h.BlobUsed != 0 || h.BlobExcess != 0 || h.Beacon != noHash) || h.Tail < 4 && h.Requests != noHash {
		return api.ErrHdField
	}
	if len(h.Extra) > 32 {
		return api.ErrHdExtra
	}
	return api.OK
}

// modelItems tells the items of all fields, those too that the tail does not have.
func modelItems(h api.Header) []api.Item {
	return []api.Item{
		text(h.Parent[:]...), text(h.Uncles[:]...), text(h.Coinbase[:]...), text(h.State[:]...), text(h.TxRoot[:]...), text(h.ReceiptRoot[:]...), text(h.Bloom[:]...),
		number(h.Difficulty), small(h.Number), small(h.Limit), small(h.Used), small(h.Time), text(h.Extra...), text(h.Mix[:]...), text(h.Nonce[:]...),
		number(h.BaseFee), text(h.Withdrawals[:]...), small(h.BlobUsed), small(h.BlobExcess), text(h.Beacon[:]...), text(h.Requests[:]...),
	}
}

// modelTree tells the list that a header of that tail is, whether it is well formed or not.
func modelTree(h api.Header) api.Item { return list(modelItems(h)[:fieldCounts[h.Tail]]...) }

func modelItem(h api.Header) (api.Item, api.Errno) {
	if e := modelCheck(h); e != api.OK {
		return nothing, e
	}
	return modelTree(h), api.OK
}

func modelHash(h api.Header) (api.Hash, api.Errno) {
	it, e := modelItem(h)
	if e != api.OK {
		return noHash, e
	}
	return keccak.Sum(modelBytes(it)), api.OK
}

// named tells the hash of a header that is well formed.
func named(h api.Header) api.Hash {
	name, _ := modelHash(h)
	return name
}

// kindOf tells what all of chapter 7's calls that read a text find wrong in an item itself.
func kindOf(it api.Item) api.Errno {
	switch {
	case it.List && len(it.Data) > 0 || !it.List && len(it.Items) > 0:
		return api.ErrRlpItem
	case it.List:
		return api.ErrRlpKind
	}
	return api.OK
}

func modelFixed(it api.Item, n int) ([]byte, api.Errno) {
	if e := kindOf(it); e != api.OK {
		return make([]byte, n), e
	}
	if len(it.Data) != n {
		return make([]byte, n), api.ErrRlpWide
	}
	return it.Data, api.OK
}

func modelNumber(it api.Item, n int) (api.U256, api.Errno) {
	switch e := kindOf(it); {
	case e != api.OK:
		return zero, e
	case len(it.Data) > n:
		return zero, api.ErrRlpWide
	case len(it.Data) > 0 && it.Data[0] == 0:
		return zero, api.ErrRlpZero
	}
	return narrow(new(big.Int).SetBytes(it.Data)), api.OK
}

func modelParse(it api.Item) (api.Header, api.Errno) {
	if !it.List && len(it.Items) > 0 || it.List && len(it.Data) > 0 {
		return api.Header{}, api.ErrRlpItem
	}
	if !it.List {
		return api.Header{}, api.ErrRlpKind
	}
	tail := slices.Index(fieldCounts[:], len(it.Items))
	if tail < 0 {
		return api.Header{}, api.ErrHdFields
	}
	h, first := api.Header{Tail: tail}, api.OK
	note := func(e api.Errno) {
		if first == api.OK {
			first = e
		}
	}
	fixed := func(i, n int) []byte {
		b, e := modelFixed(it.Items[i], n)
		note(e)
		return b
	}
	value := func(i, n int) api.U256 {
		v, e := modelNumber(it.Items[i], n)
		note(e)
		return v
	}
	h.Parent, h.Uncles, h.Coinbase = api.Hash(fixed(0, 32)), api.Hash(fixed(1, 32)), api.Address(fixed(2, 20))
	h.State, h.TxRoot, h.ReceiptRoot, h.Bloom = api.Hash(fixed(3, 32)), api.Hash(fixed(4, 32)), api.Hash(fixed(5, 32)), api.Bloom(fixed(6, 256))
	h.Difficulty = value(7, 32)
	h.Number, h.Limit, h.Used, h.Time = value(8, 8)[0], value(9, 8)[0], value(10, 8)[0], value(11, 8)[0]
	note(kindOf(it.Items[12]))
	if h.Extra = it.Items[12].Data; len(h.Extra) > 32 {
		note(api.ErrHdExtra)
	}
	h.Mix, h.Nonce = api.Hash(fixed(13, 32)), [8]byte(fixed(14, 8))
	if tail >= 1 {
		h.BaseFee = value(15, 32)
	}
	if tail >= 2 {
		h.Withdrawals = api.Hash(fixed(16, 32))
	}
	if tail >= 3 {
		h.BlobUsed, h.BlobExcess, h.Beacon = value(17, 8)[0], value(18, 8)[0], api.Hash(fixed(19, 32))
	}
	if tail >= 4 {
		h.Requests = api.Hash(fixed(20, 32))
	}
	if first != api.OK {
		return api.Header{}, first
	}
	return h, api.OK
}

func modelDecode(b []byte) (api.Header, api.Errno) {
	it, e := rlp.Decode(b)
	if e != api.OK {
		return api.Header{}, e
	}
	return modelParse(it)
}

// modelFollows tells whether a gas limit may follow another one of any size.
func modelFollows(next uint64, limit *big.Int) bool {
	d := new(big.Int).Quo(limit, big.NewInt(1024))
	x := whole(next)
	return next >= 5000 && x.Cmp(new(big.Int).Add(limit, d)) < 0 && x.Cmp(new(big.Int).Sub(limit, d)) > 0
}

// modelAhead tells L: the gas limit which that of a child with a tail is held against.
func modelAhead(parent api.Header, tail int) *big.Int {
	l := whole(parent.Limit)
	if parent.Tail == 0 && tail > 0 {
		l.Mul(l, big.NewInt(2))
	}
	return l
}

func modelBase(parent api.Header) (api.U256, api.Errno) {
	if parent.Tail == 0 {
		return api.U256{1000000000}, api.OK
	}
	return fees.NextBase(parent.BaseFee, parent.Limit, parent.Used)
}

func modelExcess(parent api.Header, tail int) (uint64, api.Errno) {
	if parent.Tail < 3 {
		return 0, api.OK
	}
	return fees.NextExcess(parent.BlobExcess, parent.BlobUsed, map[int]uint64{3: 393216, 4: 786432}[tail])
}

func modelChild(parent, child api.Header) api.Errno {
	if e := modelCheck(parent); e != api.OK {
		return e
	}
	if e := modelCheck(child); e != api.OK {
		return e
	}
	if child.Tail >= 2 && (child.Difficulty != zero || child.Nonce != [8]byte{} || child.Uncles != noUncles) {
		return api.ErrHdField
	}
	if child.Parent != named(parent) || whole(child.Number).Cmp(new(big.Int).Add(whole(parent.Number), big.NewInt(1))) != 0 || child.Tail < parent.Tail {
		return api.ErrHdParent
	}
	if !(child.Time > parent.Time) {
		return api.ErrHdTime
	}
	if child.Used > child.Limit || !modelFollows(child.Limit, modelAhead(parent, child.Tail)) {
		return api.ErrHdGas
	}
	if child.Tail >= 1 {
		if base, e := modelBase(parent); e != api.OK || base != child.BaseFee {
			return api.ErrHdBase
		}
	}
	if child.Tail >= 3 {
		excess, e := modelExcess(parent, child.Tail)
		if child.BlobUsed%131072 != 0 || child.BlobUsed > map[int]uint64{3: 786432, 4: 1179648}[child.Tail] || e != api.OK || excess != child.BlobExcess {
			return api.ErrHdBlob
		}
	}
	return api.OK
}

func modelNext(parent api.Header, time uint64, tail int) (api.Header, api.Errno) {
	if e := modelCheck(parent); e != api.OK {
		return api.Header{}, e
	}
	if tail < 0 || tail > 4 {
		return api.Header{}, api.ErrHdField
	}
	if tail < parent.Tail || parent.Number == most {
		return api.Header{}, api.ErrHdParent
	}
	if time <= parent.Time {
		return api.Header{}, api.ErrHdTime
	}
	l := modelAhead(parent, tail)
	if l.BitLen() > 64 || !modelFollows(l.Uint64(), l) {
		return api.Header{}, api.ErrHdGas
	}
	h := api.Header{Parent: named(parent), Uncles: noUncles, State: parent.State, TxRoot: noEntries, ReceiptRoot: noEntries, Number: parent.Number + 1, Limit: l.Uint64(), Time: time, Tail: tail}
	var e api.Errno
	if tail < 2 {
		h.Difficulty = parent.Difficulty
	} else {
		h.Withdrawals = noEntries
	}
	if tail >= 1 {
		if h.BaseFee, e = modelBase(parent); e != api.OK {
			return api.Header{}, api.ErrHdBase
		}
	}
	if tail >= 3 {
		if h.BlobExcess, e = modelExcess(parent, tail); e != api.OK {
			return api.Header{}, api.ErrHdBlob
		}
	}
	if tail == 4 {
		h.Requests = noRequests
	}
	return h, api.OK
}

func modelChain(all []api.Header) (int, api.Errno) {
	if len(all) == 0 {
		return 0, api.OK
	}
	if e := modelCheck(all[0]); e != api.OK {
		return 0, e
	}
	for i := 1; i < len(all); i++ {
		if e := modelChild(all[i-1], all[i]); e != api.OK {
			return i, e
		}
	}
	return len(all), api.OK
}

// anyHash, anySmall and anyNumber tell one by chance, often a small one or zero.

func anyHash(row *chance.Row) api.Hash {
	if row.Below(4) == 0 {
		return api.Hash{31: byte(row.Below(3))}
	}
	return api.Hash(row.Text(32))
}

func anySmall(row *chance.Row) uint64 { return row.Next() >> row.Below(65) }

func anyNumber(row *chance.Row) api.U256 {
	if row.Below(4) == 0 {
		return api.U256{uint64(row.Below(300))}
	}
	return row.Number()
}

// anyHeader tells a well-formed header of a tail.
func anyHeader(row *chance.Row, tail int) api.Header {
	h := api.Header{Parent: anyHash(row), Uncles: anyHash(row), Coinbase: api.Address(row.Text(20)), State: anyHash(row), TxRoot: anyHash(row), ReceiptRoot: anyHash(row), Bloom: api.Bloom(row.Text(256)), Difficulty: anyNumber(row), Number: anySmall(row), Limit: anySmall(row), Used: anySmall(row), Time: anySmall(row), Extra: row.Text(row.Below(33)), Mix: anyHash(row), Nonce: [8]byte(row.Text(8)), Tail: tail}
	fillTail(row, &h)
	return h
}

func fillTail(row *chance.Row, h *api.Header) {
	if h.Tail >= 1 {
		h.BaseFee = anyNumber(row)
	}
	if h.Tail >= 2 {
		h.Withdrawals = anyHash(row)
	}
	if h.Tail >= 3 {
		h.BlobUsed, h.BlobExcess, h.Beacon = anySmall(row), anySmall(row), anyHash(row)
	}
	if h.Tail >= 4 {
		h.Requests = anyHash(row)
	}
}

// anyParent tells a well-formed header of a tail that any tail that is not below may follow: its gas, its number and its prices have room above them.
func anyParent(row *chance.Row, tail int) api.Header {
	h := anyHeader(row, tail)
	h.Number, h.Time = h.Number>>1, h.Time>>1
	h.Limit = 5000 + h.Limit>>2
	h.Used = row.Next() % (h.Limit + 1)
	if row.Below(3) == 0 {
		h.Used = h.Limit
	}
	if tail >= 1 {
		h.BaseFee[3] >>= 1
	}
	if tail >= 3 {
		h.BlobExcess, h.BlobUsed = h.BlobExcess>>2, uint64(row.Below(10)*blob)
	}
	return h
}

// anyPair tells a header of a tail and a right child of it with another tail, some of whose free fields are not those of Next.
func anyPair(row *chance.Row, from, tail int) (parent, child api.Header) {
	parent = anyParent(row, from)
	child, e := modelNext(parent, parent.Time+1+row.Next()>>row.Below(60)>>2, tail)
	if e != api.OK {
		panic("no child")
	}
	if row.Below(2) == 0 {
		child.Coinbase, child.State, child.TxRoot, child.ReceiptRoot, child.Bloom = api.Address(row.Text(20)), anyHash(row), anyHash(row), anyHash(row), api.Bloom(row.Text(256))
		child.Extra, child.Mix, child.Used = row.Text(row.Below(33)), anyHash(row), row.Next()%(child.Limit+1)
		if tail < 2 {
			child.Difficulty, child.Nonce, child.Uncles = anyNumber(row), [8]byte(row.Text(8)), anyHash(row)
		} else {
			child.Withdrawals = anyHash(row)
		}
		if tail >= 3 {
			child.BlobUsed, child.Beacon = uint64(row.Below(7)*blob), anyHash(row)
		}
		if tail == 4 {
			child.Requests = anyHash(row)
		}
	}
	return parent, child
}

// plain tells a header of a tail that may be followed, and plainPair a right child of it with another tail.

func plain(tail int) api.Header {
	h := api.Header{Uncles: noUncles, TxRoot: noEntries, ReceiptRoot: noEntries, Number: 7, Limit: 30000000, Used: 15000000, Time: 1000, Tail: tail}
	if tail >= 1 {
		h.BaseFee = api.U256{1000}
	}
	if tail >= 2 {
		h.Withdrawals = noEntries
	}
	if tail >= 3 {
		h.BlobUsed, h.BlobExcess = 5*blob, 10*blob
	}
	if tail >= 4 {
		h.Requests = noRequests
	}
	return h
}

func plainPair(from, tail int) (parent, child api.Header) {
	parent = plain(from)
	child, e := modelNext(parent, 1012, tail)
	if e != api.OK {
		panic("no child")
	}
	return parent, child
}

// eachTails hands over each tail with each one that is not below it.
func eachTails(f func(from, tail int)) {
	for from := range tails {
		for tail := from; tail < tails; tail++ {
			f(from, tail)
		}
	}
}

// changes are what an item may become by one step: most of them are wrong where it stands.
func changes(it api.Item) []api.Item {
	all := []api.Item{text(), list(), list(it), list(text()), text(0), text(1), text(0x80), text(1, 0), text(0, 1)}
	for _, n := range []int{7, 8, 9, 19, 20, 21, 31, 32, 33, 255, 256, 257} {
		all = append(all, filled(0, n), filled(1, n), filled(0xff, n))
	}
	if n := len(it.Data); n > 0 {
		for _, data := range [][]byte{it.Data[1:], it.Data[:n-1], append([]byte{0}, it.Data...), append(slices.Clone(it.Data), 0), append([]byte{0}, it.Data[1:]...)} {
			all = append(all, text(data...))
		}
	}
	if n := len(it.Items); n > 0 {
		last := it.Items[n-1]
		for _, items := range [][]api.Item{it.Items[1:], it.Items[:n-1], append(slices.Clone(it.Items), last), append(slices.Clone(it.Items), last, last, last), append([]api.Item{it.Items[0]}, it.Items...)} {
			all = append(all, list(items...))
		}
		all = append(all, it.Items[0], last)
	}
	return all
}

// eachChange hands over a tree with each item anywhere in it changed in each way, one at a time.
func eachChange(it api.Item, f func(api.Item)) {
	for _, other := range changes(it) {
		f(other)
	}
	for i, inner := range it.Items {
		eachChange(inner, func(other api.Item) { f(replaced(it, i, other)) })
	}
}

// eachOdd hands over a tree with each item anywhere in it made odd, one at a time.
func eachOdd(it api.Item, f func(api.Item)) {
	odd := it
	if it.List {
		for _, data := range [][]byte{{0}, {1}, make([]byte, 32)} {
			odd.Data = data
			f(odd)
		}
		if len(it.Items) > 0 { // items, but not said to be a list
			f(api.Item{Items: it.Items})
		}
	} else {
		for _, items := range [][]api.Item{{text()}, {list()}} {
			odd.Items = items
			f(odd)
		}
		f(api.Item{List: true, Data: append([]byte{1}, it.Data...)}) // bytes, but said to be a list
	}
	for i, inner := range it.Items {
		eachOdd(inner, func(other api.Item) { f(replaced(it, i, other)) })
	}
}

// replaced tells a tree with another item at a place of its own list.
func replaced(it api.Item, i int, other api.Item) api.Item {
	it.Items = slices.Clone(it.Items)
	it.Items[i] = other
	return it
}

// spoilt changes an item by chance, somewhere in the tree.
func spoilt(row *chance.Row, it api.Item) api.Item {
	if len(it.Items) > 0 && row.Below(20) > 0 {
		i := row.Below(len(it.Items))
		return replaced(it, i, spoilt(row, it.Items[i]))
	}
	all := changes(it)
	return all[row.Below(len(all))]
}

// The helpers themselves: an error in them would hide one in the program.
func TestHelpers(t *testing.T) {
	row := chance.Row(1900)
	tree := list(text('c', 'a', 't'), text(), text(0x7f), text(0x80), list())
	if got := modelBytes(tree); !bytes.Equal(got, digits("c9 83636174 80 7f 8180 c0")) {
		t.Errorf("modelBytes: %x", got)
	}
	if noUncles != keccak.Sum([]byte{0xc0}) || noEntries != keccak.Sum([]byte{0x80}) {
		t.Error("the digests of nothing")
	}
	for range 200 {
		if x := row.Number(); narrow(wide(x)) != x {
			t.Errorf("%x is not there and back", x)
		}
	}
	for tail := range tails {
		for range 200 {
			h := anyHeader(&row, tail)
			it, e := modelItem(h)
			again, f := modelParse(it)
			if e != api.OK || f != api.OK || !sameHeader(h, again) || len(it.Items) != fieldCounts[tail] {
				t.Errorf("the models, there and back: %d, %d", e, f)
			}
			other := h
			other.Extra = append(slices.Clone(h.Extra), 0)
			if sameHeader(h, other) || !sameHeader(other, other) {
				t.Error("sameHeader: Extra")
			}
			other = h
			other.Nonce[7]++
			if sameHeader(h, other) {
				t.Error("sameHeader: Nonce")
			}
		}
	}
	eachTails(func(from, tail int) {
		for range 200 {
			if parent, child := anyPair(&row, from, tail); modelChild(parent, child) != api.OK || parent.Tail != from || child.Tail != tail {
				t.Errorf("anyPair of the tails %d, %d: %d", from, tail, modelChild(parent, child))
			}
		}
		if parent, child := plainPair(from, tail); modelChild(parent, child) != api.OK {
			t.Errorf("plainPair of the tails %d, %d: %d", from, tail, modelChild(parent, child))
		}
	})
	tree = modelTree(plain(4))
	before := modelBytes(tree)
	steps, odd := 0, 0
	eachChange(tree, func(api.Item) { steps++ })
	eachOdd(tree, func(other api.Item) {
		odd++
		if rlp.Check(other) != api.ErrRlpItem {
			t.Errorf("%v is not odd", other)
		}
	})
	if steps < 900 || odd != 4+21*3 || !bytes.Equal(modelBytes(tree), before) {
		t.Errorf("%d changes, %d odd ones, or the tree has changed", steps, odd)
	}
}
