package block_test

import (
	"bytes"
	"encoding/hex"
	"math/big"
	"reflect"
	"slices"
	"strings"
	"testing"

	"waybill/api"
	"waybill/chance"
	"waybill/header"
	"waybill/keccak"
	"waybill/receipt"
	"waybill/rlp"
	"waybill/trie"
	"waybill/tx"
)

const (
	most     = 1<<64 - 1 // the greatest limb
	maxInput = 16777216
	maxList  = 65536
	kinds    = 5
	tails    = 5
	blob     = 131072
)

var (
	top    = api.U256{most, most, most, most} // 2^256 - 1
	noHash = api.Hash{}

	// These two are written down, not reckoned: the Keccak-256 of c0 and of 80.
	noUncles  = hash("1dcc4de8dec75d7aab85b567b6ccd41ad312451b948a7413f0a142fd40d49347")
	noEntries = hash("56e81f171bcc55a6ff8345e692c0f86e5b48e01b996cadc001622fb5e363b421")
)

// digits reads bytes in hexadecimal digits, blanks between them or not.
func digits(s string) []byte {
	b, err := hex.DecodeString(strings.ReplaceAll(s, " ", ""))
	if err != nil {
		panic("not digits: " + s)
	}
	return b
}

func hash(s string) api.Hash { return api.Hash(digits(s)) }

// number reads a number in hexadecimal digits.
func number(s string) api.U256 {
	n := new(big.Int).SetBytes(digits(s))
	var x api.U256
	for i := range x {
		x[i] = new(big.Int).Rsh(n, uint(64*i)).Uint64()
	}
	return x
}

func text(b ...byte) api.Item { return api.Item{Data: b} }

func list(items ...api.Item) api.Item { return api.Item{List: true, Items: items} }

func filled(b byte, n int) api.Item { return text(bytes.Repeat([]byte{b}, n)...) }

func small(v uint64) api.Item { return text(new(big.Int).SetUint64(v).Bytes()...) }

// same tells whether two values of one type are the same throughout; nil and empty lists are (P0.4).
func same[T any](a, b T) bool { return sameValue(reflect.ValueOf(a), reflect.ValueOf(b)) }

func sameValue(a, b reflect.Value) bool {
	if a.Comparable() {
		return a.Equal(b)
	}
	if a.Kind() == reflect.Struct {
		for i := range a.NumField() {
			if !sameValue(a.Field(i), b.Field(i)) {
				return false
			}
		}
		return true
	}
	if a.Len() != b.Len() { // it is a slice: nothing else in api's types is not comparable
		return false
	}
	if a.Type().Elem().Kind() == reflect.Uint8 {
		return bytes.Equal(a.Bytes(), b.Bytes())
	}
	for i := range a.Len() {
		if !sameValue(a.Index(i), b.Index(i)) {
			return false
		}
	}
	return true
}

func isNone(b api.Block) bool { return same(b, api.Block{}) }

// cloned tells a block in memory of its own.
func cloned(b api.Block) api.Block { return deep(reflect.ValueOf(b), false).Interface().(api.Block) }

// deep tells a value in memory of its own; whole: with what stands in the room beyond its lists' ends.
func deep(v reflect.Value, whole bool) reflect.Value {
	out := reflect.New(v.Type()).Elem()
	out.Set(v)
	switch v.Kind() {
	case reflect.Struct:
		for i := range v.NumField() {
			out.Field(i).Set(deep(v.Field(i), whole))
		}
	case reflect.Slice:
		n := v.Len()
		if whole {
			n = v.Cap()
		}
		out.Set(reflect.MakeSlice(v.Type(), n, n))
		reflect.Copy(out, v.Slice3(0, n, n))
		if v.Type().Elem().Kind() == reflect.Struct {
			for i := range n {
				out.Index(i).Set(deep(out.Index(i), whole))
			}
		}
	}
	return out
}

// turned tells a block again, in memory of its own, with a change.
func turned(b api.Block, turn func(*api.Block)) api.Block {
	b = cloned(b)
	turn(&b)
	return b
}

// The models follow the chapter's words. What the chapter leaves to the layers below (rlp.Decode, tx's and receipt's envelopes, headers as items, roots of lists) is theirs, which have tests of their own.

func modelHead(first byte, n int) []byte {
	if n <= 55 {
		return []byte{first + byte(n)}
	}
	length := big.NewInt(int64(n)).Bytes()
	return append([]byte{first + 0x37 + byte(len(length))}, length...)
}

func modelBytes(it api.Item) []byte {
	if !it.List {
		if len(it.Data) == 1 && it.Data[0] < 0x80 {
			return []byte{it.Data[0]}
		}
		return append(modelHead(0x80, len(it.Data)), it.Data...)
	}
	var held []byte
	for _, inner := range it.Items {
		held = append(held, modelBytes(inner)...)
	}
	return append(modelHead(0xc0, len(held)), held...)
}

// modelSize tells how many bytes an item has, without making them.
func modelSize(it api.Item) int {
	if !it.List {
		if len(it.Data) == 1 && it.Data[0] < 0x80 {
			return 1
		}
		return len(modelHead(0x80, len(it.Data))) + len(it.Data)
	}
	held := 0
	for _, inner := range it.Items {
		held += modelSize(inner)
	}
	return len(modelHead(0xc0, held)) + held
}

func drawTree(w api.Withdrawal) api.Item {
	return list(small(w.Index), small(w.Validator), text(w.Address[:]...), small(w.Amount))
}

func modelTxRoot(txs []api.Tx) (api.Hash, api.Errno) {
	if len(txs) >= maxList {
		return noHash, api.ErrBkCount
	}
	var all [][]byte
	for _, x := range txs {
		b, e := tx.Encode(x)
		if e != api.OK {
			return noHash, e
		}
		all = append(all, b)
	}
	return trie.ListRoot(all)
}

func modelReceiptRoot(receipts []api.Receipt) (api.Hash, api.Errno) {
	if len(receipts) >= maxList {
		return noHash, api.ErrBkCount
	}
	var all [][]byte
	for _, r := range receipts {
		b, e := receipt.Encode(r)
		if e != api.OK {
			return noHash, e
		}
		all = append(all, b)
	}
	return trie.ListRoot(all)
}

func modelDrawRoot(draws []api.Withdrawal) (api.Hash, api.Errno) {
	if len(draws) >= maxList {
		return noHash, api.ErrBkCount
	}
	var all [][]byte
	for _, w := range draws {
		all = append(all, modelBytes(drawTree(w)))
	}
	return trie.ListRoot(all)
}

func modelUncleHash(uncles []api.Header) (api.Hash, api.Errno) {
	if len(uncles) >= maxList {
		return noHash, api.ErrBkCount
	}
	whole := list()
	for _, h := range uncles {
		it, e := header.Item(h)
		if e != api.OK {
			return noHash, e
		}
		whole.Items = append(whole.Items, it)
	}
	if modelSize(whole) > maxInput {
		return noHash, api.ErrLong
	}
	return keccak.Sum(modelBytes(whole)), api.OK
}

func modelFault(b api.Block) api.Errno {
	if e := header.Check(b.Header); e != api.OK {
		return e
	}
	if b.Drawn && b.Header.Tail < 2 || !b.Drawn && b.Header.Tail >= 2 || !b.Drawn && len(b.Withdrawals) > 0 {
		return api.ErrBkField
	}
	if len(b.Txs) >= maxList || len(b.Uncles) >= maxList || len(b.Withdrawals) >= maxList {
		return api.ErrBkCount
	}
	for _, x := range b.Txs {
		if e := tx.Check(x); e != api.OK {
			return e
		}
	}
	for _, h := range b.Uncles {
		if e := header.Check(h); e != api.OK {
			return e
		}
	}
	return api.OK
}

// modelTree tells the item of a well-formed block.
func modelTree(b api.Block) api.Item {
	head, _ := header.Item(b.Header)
	txs, uncles, draws := list(), list(), list()
	for _, x := range b.Txs {
		envelope, _ := tx.Encode(x)
		it := text(envelope...)
		if x.Type == 0 {
			it, _ = rlp.Decode(envelope)
		}
		txs.Items = append(txs.Items, it)
	}
	for _, h := range b.Uncles {
		it, _ := header.Item(h)
		uncles.Items = append(uncles.Items, it)
	}
	for _, w := range b.Withdrawals {
		draws.Items = append(draws.Items, drawTree(w))
	}
	if b.Drawn {
		return list(head, txs, uncles, draws)
	}
	return list(head, txs, uncles)
}

func modelEncode(b api.Block) ([]byte, api.Errno) {
	if e := modelFault(b); e != api.OK {
		return nil, e
	}
	tree := modelTree(b)
	if modelSize(tree) > maxInput {
		return nil, api.ErrLong
	}
	return modelBytes(tree), api.OK
}

func modelReadTx(it api.Item) (api.Tx, api.Errno) {
	if it.List {
		return tx.Decode(modelBytes(it))
	}
	if len(it.Data) == 0 || it.Data[0] >= 0xc0 {
		return api.Tx{}, api.ErrBkField
	}
	return tx.Decode(it.Data)
}

func isScalar(it api.Item) bool {
	return !it.List && len(it.Data) <= 8 && (len(it.Data) == 0 || it.Data[0] != 0)
}

func modelReadDraw(it api.Item) (w api.Withdrawal, e api.Errno) {
	if !it.List || len(it.Items) != 4 || !isScalar(it.Items[0]) || !isScalar(it.Items[1]) || it.Items[2].List || len(it.Items[2].Data) != 20 || !isScalar(it.Items[3]) {
		return w, api.ErrBkField
	}
	value := func(i int) uint64 { return new(big.Int).SetBytes(it.Items[i].Data).Uint64() }
	return api.Withdrawal{Index: value(0), Validator: value(1), Address: api.Address(it.Items[2].Data), Amount: value(3)}, api.OK
}

func modelReadAll[T any](it api.Item, read func(api.Item) (T, api.Errno)) (all []T, e api.Errno) {
	if !it.List {
		return nil, api.ErrBkField
	}
	if len(it.Items) >= maxList {
		return nil, api.ErrBkCount
	}
	for _, inner := range it.Items {
		one, e := read(inner)
		if e != api.OK {
			return nil, e
		}
		all = append(all, one)
	}
	return all, api.OK
}

func modelDecode(data []byte) (api.Block, api.Errno) {
	it, e := rlp.Decode(data)
	if e != api.OK {
		return api.Block{}, e
	}
	if !it.List || len(it.Items) < 3 || len(it.Items) > 4 {
		return api.Block{}, api.ErrBkFields
	}
	var b api.Block
	var errors [5]api.Errno
	b.Header, errors[0] = header.Parse(it.Items[0])
	b.Txs, errors[1] = modelReadAll(it.Items[1], modelReadTx)
	b.Uncles, errors[2] = modelReadAll(it.Items[2], header.Parse)
	if len(it.Items) == 4 {
		b.Drawn = true
		b.Withdrawals, errors[3] = modelReadAll(it.Items[3], modelReadDraw)
	}
	if b.Drawn != (b.Header.Tail >= 2) {
		errors[4] = api.ErrBkField
	}
	for _, e := range errors {
		if e != api.OK {
			return api.Block{}, e
		}
	}
	return b, api.OK
}

func modelGas(txs []api.Tx) uint64 {
	count := 0
	for _, x := range txs {
		count += len(x.BlobHashes)
	}
	return 131072 * uint64(count)
}

func modelCheck(b api.Block) api.Errno {
	if _, e := modelEncode(b); e != api.OK {
		return e
	}
	h := b.Header
	if root, _ := modelTxRoot(b.Txs); root != h.TxRoot {
		return api.ErrBkTxs
	}
	if digest, _ := modelUncleHash(b.Uncles); digest != h.Uncles {
		return api.ErrBkUncles
	}
	if root, _ := modelDrawRoot(b.Withdrawals); h.Tail >= 2 && root != h.Withdrawals {
		return api.ErrBkDraws
	}
	if gas := modelGas(b.Txs); h.Tail >= 3 && h.BlobUsed != gas || h.Tail < 3 && gas != 0 {
		return api.ErrBkBlobs
	}
	return api.OK
}

func modelSeal(b api.Block) (api.Block, api.Errno) {
	if e := modelFault(b); e != api.OK {
		return api.Block{}, e
	}
	s := b
	var e, f, g api.Errno
	s.Header.TxRoot, e = modelTxRoot(b.Txs)
	s.Header.Uncles, f = modelUncleHash(b.Uncles)
	if s.Header.Tail >= 2 {
		s.Header.Withdrawals, g = modelDrawRoot(b.Withdrawals)
	}
	if s.Header.Tail >= 3 {
		s.Header.BlobUsed = modelGas(b.Txs)
	}
	for _, e := range []api.Errno{e, f, g, modelCheck(s)} {
		if e != api.OK {
			return api.Block{}, e
		}
	}
	return s, api.OK
}

func modelReceipts(b api.Block, receipts []api.Receipt) api.Errno {
	if e := modelCheck(b); e != api.OK {
		return e
	}
	for _, r := range receipts {
		if e := receipt.Check(r); e != api.OK {
			return e
		}
	}
	if len(receipts) != len(b.Txs) {
		return api.ErrBkRcs
	}
	var last uint64
	var all api.Bloom
	for i, r := range receipts {
		if r.Type != b.Txs[i].Type || r.Used < last {
			return api.ErrBkRcs
		}
		last = r.Used
		for j := range all {
			all[j] |= r.Bloom[j]
		}
	}
	root, e := modelReceiptRoot(receipts)
	if b.Header.Used != last || b.Header.Bloom != all || e != api.OK || b.Header.ReceiptRoot != root {
		return api.ErrBkRcs
	}
	return api.OK
}

// anyHash, anyAddress, anySmall and anyNumber tell one by chance, often a small one or zero.

func anyHash(row *chance.Row) api.Hash {
	if row.Below(4) == 0 {
		return api.Hash{31: byte(row.Below(3))}
	}
	return api.Hash(row.Text(32))
}

func anyAddress(row *chance.Row) api.Address {
	if row.Below(4) == 0 {
		return api.Address{19: byte(row.Below(3))}
	}
	return api.Address(row.Text(20))
}

func anySmall(row *chance.Row) uint64 { return row.Next() >> row.Below(65) }

func anyNumber(row *chance.Row) api.U256 {
	if row.Below(4) == 0 {
		return api.U256{uint64(row.Below(300))}
	}
	return row.Number()
}

// several tells up to n things by chance.
func several[T any](row *chance.Row, n int, one func(*chance.Row) T) []T {
	var all []T
	for range row.Below(n + 1) {
		all = append(all, one(row))
	}
	return all
}

func anyEntry(row *chance.Row) api.AccessEntry {
	return api.AccessEntry{Address: anyAddress(row), Keys: several(row, 3, anyHash)}
}

func anyAuth(row *chance.Row) api.Auth {
	return api.Auth{Chain: anyNumber(row), Address: anyAddress(row), Nonce: anySmall(row), Parity: uint64(row.Below(256)), R: anyNumber(row), S: anyNumber(row)}
}

func anyBlob(row *chance.Row) api.Hash {
	h := anyHash(row)
	h[0] = 1
	return h
}

// anyTx tells a well-formed transaction of a type.
func anyTx(row *chance.Row, kind int) api.Tx {
	x := api.Tx{Type: kind, Chain: anySmall(row) >> 1, Nonce: anySmall(row), Gas: anySmall(row), To: anyAddress(row), Value: anyNumber(row), Data: row.Text(row.Below(80)), R: anyNumber(row), S: anyNumber(row), V: api.U256{uint64(row.Below(2))}}
	if kind < 3 && row.Below(3) == 0 {
		x.Create, x.To = true, api.Address{}
	}
	if kind < 2 {
		x.Price = anyNumber(row)
	} else {
		x.Tip, x.Cap = anyNumber(row), anyNumber(row)
	}
	switch kind {
	case 0:
		x.Chain = uint64(row.Below(3))
		x.V[0] += []uint64{27, 37, 39}[x.Chain]
		return x
	case 3:
		x.BlobCap, x.BlobHashes = anyNumber(row), append(several(row, 3, anyBlob), anyBlob(row))
	case 4:
		x.Auths = append(several(row, 2, anyAuth), anyAuth(row))
	}
	x.Access = several(row, 2, anyEntry)
	return x
}

// plainTx tells the least well-formed transaction of a type.
func plainTx(kind int) api.Tx {
	return []api.Tx{
		{Type: 0, V: api.U256{27}}, {Type: 1}, {Type: 2}, {Type: 3, BlobHashes: []api.Hash{{1}}}, {Type: 4, Auths: []api.Auth{{}}},
	}[kind]
}

// anyHeader tells a well-formed header of a tail.
func anyHeader(row *chance.Row, tail int) api.Header {
	h := api.Header{Parent: anyHash(row), Uncles: anyHash(row), Coinbase: anyAddress(row), State: anyHash(row), TxRoot: anyHash(row), ReceiptRoot: anyHash(row), Bloom: api.Bloom(row.Text(256)), Difficulty: anyNumber(row), Number: anySmall(row), Limit: anySmall(row), Used: anySmall(row), Time: anySmall(row), Extra: row.Text(row.Below(33)), Mix: anyHash(row), Nonce: [8]byte(row.Text(8)), Tail: tail}
	if tail >= 1 {
		h.BaseFee = anyNumber(row)
	}
	if tail >= 2 {
		h.Withdrawals = anyHash(row)
	}
	if tail >= 3 {
		h.BlobUsed, h.BlobExcess, h.Beacon = anySmall(row), anySmall(row), anyHash(row)
	}
	if tail >= 4 {
		h.Requests = anyHash(row)
	}
	return h
}

func anyUncle(row *chance.Row) api.Header { return anyHeader(row, row.Below(tails)) }

func anyDraw(row *chance.Row) api.Withdrawal {
	return api.Withdrawal{Index: anySmall(row), Validator: anySmall(row), Address: anyAddress(row), Amount: anySmall(row)}
}

// anyBlock tells a well-formed block of a tail, with blobs only where the tail has them; its header is seldom that of what it holds.
func anyBlock(row *chance.Row, tail int) api.Block {
	b := api.Block{Header: anyHeader(row, tail), Uncles: several(row, 2, anyUncle)}
	b.Txs = several(row, 5, func(row *chance.Row) api.Tx {
		kind := row.Below(kinds)
		if kind == 3 && tail < 3 {
			kind = 0
		}
		return anyTx(row, kind)
	})
	if tail >= 2 {
		b.Drawn, b.Withdrawals = true, several(row, 3, anyDraw)
	}
	return b
}

// anySealed tells a block of a tail that is taken.
func anySealed(row *chance.Row, tail int) api.Block {
	s, e := modelSeal(anyBlock(row, tail))
	if e != api.OK {
		panic("not sealed")
	}
	return s
}

func anyLog(row *chance.Row) api.Log {
	return api.Log{Address: anyAddress(row), Topics: several(row, 4, anyHash), Data: row.Text(row.Below(60))}
}

// anyReceipt tells a well-formed receipt of a type.
func anyReceipt(row *chance.Row, kind int, used uint64) api.Receipt {
	r := api.Receipt{Type: kind, Status: uint64(row.Below(2)), Used: used, Logs: several(row, 3, anyLog)}
	if kind == 0 && row.Below(3) == 0 {
		r.Rooted, r.Root, r.Status = true, anyHash(row), 0
	}
	r.Bloom = receipt.BloomOf(r.Logs)
	return r
}

// anyDone tells a block of a tail with its receipts.
func anyDone(row *chance.Row, tail int) (api.Block, []api.Receipt) {
	b := anySealed(row, tail)
	var receipts []api.Receipt
	var used uint64
	for _, x := range b.Txs {
		used += uint64(row.Below(100000))
		receipts = append(receipts, anyReceipt(row, x.Type, used))
	}
	return told(b, receipts), receipts
}

// told tells a block whose header tells these receipts.
func told(b api.Block, receipts []api.Receipt) api.Block {
	b.Header.Used, b.Header.Bloom = 0, api.Bloom{}
	for _, r := range receipts {
		b.Header.Used = r.Used
		for j := range r.Bloom {
			b.Header.Bloom[j] |= r.Bloom[j]
		}
	}
	b.Header.ReceiptRoot, _ = modelReceiptRoot(receipts)
	return b
}

// full tells a sealed block of a tail with transactions of all types that it may have, uncles of all tails, and withdrawals.
func full(tail int) api.Block {
	b := api.Block{Header: api.Header{Tail: tail, Number: 7, Limit: 100000}}
	for kind := range kinds {
		if kind != 3 || tail >= 3 {
			b.Txs = append(b.Txs, plainTx(kind))
		}
	}
	for other := range tails {
		b.Uncles = append(b.Uncles, api.Header{Tail: other, Number: 6})
	}
	if tail >= 2 {
		b.Drawn, b.Withdrawals = true, []api.Withdrawal{{Index: 1, Validator: 2, Address: api.Address{3}, Amount: 400}, {}, {Index: most, Validator: most, Amount: most}}
	}
	s, e := modelSeal(b)
	if e != api.OK {
		panic("not sealed")
	}
	return s
}

// changes are what an item may become by one step: most of them are wrong where it stands.
func changes(it api.Item) []api.Item {
	all := []api.Item{text(), list(), list(it), list(text()), list(list()), text(0), text(1), text(4), text(5), text(0x80), text(0xc0), text(1, 0), text(0, 1)}
	for _, n := range []int{8, 9, 19, 20, 21, 32, 33} {
		all = append(all, filled(0, n), filled(1, n), filled(0xff, n))
	}
	if n := len(it.Data); n > 0 {
		for _, data := range [][]byte{it.Data[1:], it.Data[:n-1], append([]byte{0}, it.Data...), append(slices.Clone(it.Data), 0), append([]byte{0}, it.Data[1:]...), append([]byte{3}, it.Data[1:]...)} {
			all = append(all, text(data...))
		}
	}
	if n := len(it.Items); n > 0 {
		first, last := it.Items[0], it.Items[n-1]
		for _, items := range [][]api.Item{it.Items[1:], it.Items[:n-1], append(slices.Clone(it.Items), last), append(slices.Clone(it.Items), list()), append([]api.Item{first}, it.Items...)} {
			all = append(all, list(items...))
		}
		all = append(all, first, last, text(modelBytes(it)...))
	}
	return all
}

// eachChange hands over a tree with each item anywhere in it changed in each way, one at a time.
func eachChange(it api.Item, f func(api.Item)) {
	for _, other := range changes(it) {
		f(other)
	}
	for i, inner := range it.Items {
		eachChange(inner, func(other api.Item) { f(replaced(it, i, other)) })
	}
}

// replaced tells a tree with another item at a place of its own list.
func replaced(it api.Item, i int, other api.Item) api.Item {
	it.Items = slices.Clone(it.Items)
	it.Items[i] = other
	return it
}

// spoilt changes an item by chance, somewhere in the tree.
func spoilt(row *chance.Row, it api.Item) api.Item {
	if len(it.Items) > 0 && row.Below(12) > 0 {
		i := row.Below(len(it.Items))
		return replaced(it, i, spoilt(row, it.Items[i]))
	}
	all := changes(it)
	return all[row.Below(len(all))]
}

// The helpers themselves: an error in them would hide one in the program.
func TestHelpers(t *testing.T) {
	row := chance.Row(2000)
	tree := list(text('c', 'a', 't'), text(), text(0x7f), text(0x80), list())
	if got := modelBytes(tree); !bytes.Equal(got, digits("c9 83636174 80 7f 8180 c0")) || modelSize(tree) != len(got) {
		t.Errorf("modelBytes: %x", got)
	}
	if noUncles != keccak.Sum([]byte{0xc0}) || noEntries != keccak.Sum([]byte{0x80}) {
		t.Error("the digests of nothing")
	}
	if number("01 0000000000000002") != (api.U256{2, 1}) {
		t.Error("number")
	}
	types, bare := [kinds]int{}, 0
	for n := range 1000 {
		tail := n % tails
		b := anyBlock(&row, tail)
		data, e := modelEncode(b)
		again, f := modelDecode(data)
		if e != api.OK || f != api.OK || !same(again, b) || len(data) != modelSize(modelTree(b)) || !same(cloned(b), b) {
			t.Errorf("the models, there and back: %d, %d", e, f)
		}
		if len(b.Txs) == 0 {
			bare++
		}
		for _, x := range b.Txs {
			types[x.Type]++
		}
		if done, receipts := anyDone(&row, tail); modelCheck(done) != api.OK || modelReceipts(done, receipts) != api.OK {
			t.Errorf("anyDone: %d, %d", modelCheck(done), modelReceipts(done, receipts))
		}
	}
	if slices.Min(types[:]) < 100 || bare < 50 {
		t.Errorf("transactions of the types %v, %d blocks without one", types, bare)
	}
	b := turned(full(4), func(b *api.Block) { b.Txs[1].Access = []api.AccessEntry{{Keys: []api.Hash{{1}, {2}}}} })
	for i, turn := range []func(*api.Block){
		func(b *api.Block) { b.Header.Nonce[7]++ }, func(b *api.Block) { b.Header.Extra = []byte{0} }, func(b *api.Block) { b.Drawn = false },
		func(b *api.Block) { b.Txs[0].Data = []byte{0} }, func(b *api.Block) { b.Txs[1].Access[0].Keys[1][31]++ }, func(b *api.Block) { b.Txs = b.Txs[:4] },
		func(b *api.Block) { b.Uncles[2].Number++ }, func(b *api.Block) { b.Uncles = nil }, func(b *api.Block) { b.Withdrawals[2].Amount-- }, func(b *api.Block) { b.Txs[4].Auths[0].Nonce++ },
	} {
		other := turned(b, turn)
		if same(b, other) || !same(other, cloned(other)) {
			t.Errorf("turn %d: not told apart, or the clone is not the same", i)
		}
	}
	whole := modelTree(full(4))
	before := modelBytes(whole)
	steps := 0
	eachChange(whole, func(api.Item) { steps++ })
	if steps < 5000 || !bytes.Equal(modelBytes(whole), before) {
		t.Errorf("%d changes, or the tree has changed", steps)
	}
}
