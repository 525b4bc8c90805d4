package wire_test

import (
	"bytes"
	"encoding/hex"
	"math/big"
	"reflect"
	"slices"
	"strings"
	"testing"

	"waybill/api"
	"waybill/block"
	"waybill/chance"
	"waybill/header"
	"waybill/keccak"
	"waybill/receipt"
	"waybill/rlp"
	"waybill/signing"
	"waybill/trie"
	"waybill/tx"
	"waybill/wire"
)

const (
	most     = 1<<64 - 1 // the greatest limb
	maxInput = 16777216
	maxList  = 65536
	kinds    = 5
	tails    = 5
)

var (
	top    = api.U256{most, most, most, most} // 2^256 - 1
	noHash = api.Hash{}
	nobody = api.Address{}

	// This one is written down, not reckoned: the Keccak-256 of 80.
	noEntries = hash("56e81f171bcc55a6ff8345e692c0f86e5b48e01b996cadc001622fb5e363b421")
)

// digits reads bytes in hexadecimal digits, blanks between them or not.
func digits(s string) []byte {
	b, err := hex.DecodeString(strings.ReplaceAll(s, " ", ""))
	if err != nil {
		panic("not digits: " + s)
	}
	return b
}

func hash(s string) api.Hash { return api.Hash(digits(s)) }

// number reads a number in hexadecimal digits.
func number(s string) api.U256 {
	n := new(big.Int).SetBytes(digits(s))
	var x api.U256
	for i := range x {
		x[i] = new(big.Int).Rsh(n, uint(64*i)).Uint64()
	}
	return x
}

func text(b ...byte) api.Item { return api.Item{Data: b} }

func list(items ...api.Item) api.Item { return api.Item{List: true, Items: items} }

func short(b []byte) []byte { return b[:min(len(b), 300)] }

// same tells whether two values of one type are the same throughout; nil and empty lists are (P0.4).
func same[T any](a, b T) bool {
	return sameValue(reflect.ValueOf(&a).Elem(), reflect.ValueOf(&b).Elem())
}

func sameValue(a, b reflect.Value) bool {
	if a.Comparable() {
		return a.Equal(b)
	}
	if a.Kind() == reflect.Struct {
		for i := range a.NumField() {
			if !sameValue(a.Field(i), b.Field(i)) {
				return false
			}
		}
		return true
	}
	if a.Len() != b.Len() { // it is a slice: nothing else in api's types is not comparable
		return false
	}
	if a.Type().Elem().Kind() == reflect.Uint8 {
		return bytes.Equal(a.Bytes(), b.Bytes())
	}
	for i := range a.Len() {
		if !sameValue(a.Index(i), b.Index(i)) {
			return false
		}
	}
	return true
}

func isNone[T any](x T) bool {
	var none T
	return same(x, none)
}

func modelHead(first byte, n int) []byte {
	if n <= 55 {
		return []byte{first + byte(n)}
	}
	length := big.NewInt(int64(n)).Bytes()
	return append([]byte{first + 0x37 + byte(len(length))}, length...)
}

func modelBytes(it api.Item) []byte {
	if !it.List {
		if len(it.Data) == 1 && it.Data[0] < 0x80 {
			return []byte{it.Data[0]}
		}
		return append(modelHead(0x80, len(it.Data)), it.Data...)
	}
	var held []byte
	for _, inner := range it.Items {
		held = append(held, modelBytes(inner)...)
	}
	return append(modelHead(0xc0, len(held)), held...)
}

// paper is one of the two kinds of things that stand in lists: what the layer below tells of one, what wire tells of many, and things to try.
type paper[T any] struct {
	encode func(T) ([]byte, api.Errno)
	decode func([]byte) (T, api.Errno)
	kind   func(T) int
	none   api.Errno // of an item in which none can stand

	encodeOne  func(T) ([]byte, api.Errno)
	decodeOne  func([]byte) (T, api.Errno)
	encodeList func([]T) ([]byte, api.Errno)
	decodeList func([]byte) ([]T, api.Errno)
	root       func([]T) (api.Hash, api.Errno)

	any    func(row *chance.Row, kind int) T
	plain  func(kind int) T    // the least of a type
	grown  func(kind, n int) T // one of a type with n bytes of data
	wrongs []T
}

func txs() paper[api.Tx] {
	return paper[api.Tx]{
		encode: tx.Encode, decode: tx.Decode, kind: func(x api.Tx) int { return x.Type }, none: api.ErrTxForm,
		encodeOne: wire.EncodeTx, decodeOne: wire.DecodeTx, encodeList: wire.EncodeTxs, decodeList: wire.DecodeTxs, root: wire.TxRoot,
		any: anyTx, plain: plainTx,
		grown: func(kind, n int) api.Tx {
			x := plainTx(kind)
			x.Data = make([]byte, n)
			return x
		},
		wrongs: []api.Tx{
			{Type: 9}, {Type: -1}, {Type: 2, Price: api.U256{1}}, {Type: 1, Chain: 1 << 63}, {Type: 3, Create: true, BlobHashes: []api.Hash{{1}}}, {Type: 4},
			{Type: 4, Auths: []api.Auth{{Parity: 256}}}, {Type: 0}, {Type: 2, V: api.U256{2}}, {Type: 2, Data: make([]byte, maxInput)},
		},
	}
}

func receipts() paper[api.Receipt] {
	return paper[api.Receipt]{
		encode: receipt.Encode, decode: receipt.Decode, kind: func(r api.Receipt) int { return r.Type }, none: api.ErrRcType,
		encodeOne: wire.EncodeReceipt, decodeOne: wire.DecodeReceipt, encodeList: wire.EncodeReceipts, decodeList: wire.DecodeReceipts, root: wire.ReceiptRoot,
		any: anyReceipt, plain: func(kind int) api.Receipt { return api.Receipt{Type: kind} },
		grown: func(kind, n int) api.Receipt {
			return withBloom(api.Receipt{Type: kind, Logs: []api.Log{{Data: make([]byte, n)}}})
		},
		wrongs: []api.Receipt{
			{Type: 5}, {Type: -1}, {Status: 2}, {Type: 1, Rooted: true}, {Logs: []api.Log{{Topics: make([]api.Hash, 5)}}}, {Bloom: api.Bloom{1}},
			withBloom(api.Receipt{Logs: []api.Log{{Data: make([]byte, maxInput)}}}),
		},
	}
}

// The models follow the chapter's words. What it leaves to the layers below (one transaction, receipt, header or block, rlp.Decode, a list's trie, senders) is theirs, which have tests of their own.

// envelopes tells the envelopes of a list of things, and the first error of one of them.
func (p paper[T]) envelopes(l []T) ([][]byte, api.Errno) {
	if len(l) >= maxList {
		return nil, api.ErrBkCount
	}
	var all [][]byte
	for _, x := range l {
		b, e := p.encode(x)
		if e != api.OK {
			return nil, e
		}
		all = append(all, b)
	}
	return all, api.OK
}

// item tells the bytes of the item in which an envelope of a type stands.
func item(kind int, envelope []byte) []byte {
	if kind == 0 {
		return envelope
	}
	return modelBytes(text(envelope...))
}

func (p paper[T]) modelEncode(l []T) ([]byte, api.Errno) {
	all, e := p.envelopes(l)
	if e != api.OK {
		return nil, e
	}
	var held []byte
	for i, b := range all {
		held = append(held, item(p.kind(l[i]), b)...)
		if len(held) > maxInput {
			return nil, api.ErrLong
		}
	}
	whole := append(modelHead(0xc0, len(held)), held...)
	if len(whole) > maxInput {
		return nil, api.ErrLong
	}
	return whole, api.OK
}

func (p paper[T]) modelDecode(b []byte) ([]T, api.Errno) {
	if len(b) > maxInput {
		return nil, api.ErrLong
	}
	it, e := rlp.Decode(b)
	if e != api.OK {
		return nil, e
	}
	if !it.List {
		return nil, api.ErrRlpKind
	}
	if len(it.Items) >= maxList {
		return nil, api.ErrBkCount
	}
	var all []T
	for _, inner := range it.Items {
		own := inner.Data
		if inner.List {
			own = modelBytes(inner)
		} else if len(own) == 0 || own[0] >= 0xc0 {
			return nil, p.none
		}
		x, e := p.decode(own)
		if e != api.OK {
			return nil, e
		}
		all = append(all, x)
	}
	return all, api.OK
}

func (p paper[T]) modelRoot(l []T) (api.Hash, api.Errno) {
	all, e := p.envelopes(l)
	if e != api.OK {
		return noHash, e
	}
	size := 0
	for _, b := range all {
		size += len(b)
	}
	if size > maxInput {
		return noHash, api.ErrLong
	}
	return trie.ListRoot(all)
}

func modelTxHash(b []byte) (api.Hash, api.Errno) {
	if _, e := tx.Decode(b); e != api.OK {
		return noHash, e
	}
	return keccak.Sum(b), api.OK
}

func modelSender(b []byte) (api.Address, api.Errno) {
	x, e := tx.Decode(b)
	if e != api.OK {
		return nobody, e
	}
	return signing.Sender(x)
}

func modelSent(b []byte) (s api.Sent) {
	if s.Hash, s.Err = modelTxHash(b); s.Err == api.OK {
		s.Sender, s.Err = modelSender(b)
	}
	return s
}

func modelKind(b []byte) (int, api.Errno) {
	if len(b) > maxInput {
		return 0, api.ErrLong
	}
	_, a := tx.Decode(b)
	_, c := receipt.Decode(b)
	_, d := header.Decode(b)
	_, f := block.Decode(b)
	sum := 0
	for i, e := range []api.Errno{a, c, d, f} {
		if e == api.OK {
			sum += []int{1, 2, 4, 8}[i]
		}
	}
	return sum, api.OK
}

// modelMatches counts at how many places a log has what is asked: it must be all of them.
func modelMatches(l api.Log, addresses []api.Address, topics [][]api.Hash) bool {
	whose := len(addresses) == 0
	for _, a := range addresses {
		whose = whose || a == l.Address
	}
	good := 0
	for i, wanted := range topics {
		if i < len(l.Topics) && (len(wanted) == 0 || slices.Index(wanted, l.Topics[i]) >= 0) {
			good++
		}
	}
	return whose && good == len(topics)
}

func modelFilter(l []api.Receipt, addresses []api.Address, topics [][]api.Hash) ([]int, api.Errno) {
	if len(l) >= maxList {
		return nil, api.ErrBkCount
	}
	for _, r := range l {
		if e := receipt.Check(r); e != api.OK {
			return nil, e
		}
	}
	if len(topics) > 4 {
		return nil, api.ErrArg
	}
	var places []int
	for i, r := range l {
		count := 0
		for _, one := range r.Logs {
			if modelMatches(one, addresses, topics) {
				count++
			}
		}
		if count > 0 {
			places = append(places, i)
		}
	}
	return places, api.OK
}

// modelBloom adds the blooms' bits up in a number.
func modelBloom(l []api.Receipt) api.Bloom {
	n := new(big.Int)
	for _, r := range l {
		n.Or(n, new(big.Int).SetBytes(r.Bloom[:]))
	}
	return api.Bloom(n.FillBytes(make([]byte, 256)))
}

// anyHash, anyAddress, anySmall and anyNumber tell one by chance, often a small one or zero.

func anyHash(row *chance.Row) api.Hash {
	if row.Below(4) > 0 {
		return api.Hash{31: byte(row.Below(3))}
	}
	return api.Hash(row.Text(32))
}

func anyAddress(row *chance.Row) api.Address {
	if row.Below(4) > 0 {
		return api.Address{19: byte(row.Below(3))}
	}
	return api.Address(row.Text(20))
}

func anySmall(row *chance.Row) uint64 { return row.Next() >> row.Below(65) }

func anyNumber(row *chance.Row) api.U256 {
	if row.Below(4) == 0 {
		return api.U256{uint64(row.Below(300))}
	}
	return row.Number()
}

// several tells up to n things by chance.
func several[T any](row *chance.Row, n int, one func(*chance.Row) T) []T {
	var all []T
	for range row.Below(n + 1) {
		all = append(all, one(row))
	}
	return all
}

func anyEntry(row *chance.Row) api.AccessEntry {
	return api.AccessEntry{Address: anyAddress(row), Keys: several(row, 3, anyHash)}
}

func anyAuth(row *chance.Row) api.Auth {
	return api.Auth{Chain: anyNumber(row), Address: anyAddress(row), Nonce: anySmall(row), Parity: uint64(row.Below(256)), R: anyNumber(row), S: anyNumber(row)}
}

func anyBlob(row *chance.Row) api.Hash {
	h := anyHash(row)
	h[0] = 1
	return h
}

// anyTx tells a well-formed transaction of a type, with a signature that seldom is one.
func anyTx(row *chance.Row, kind int) api.Tx {
	x := api.Tx{Type: kind, Chain: anySmall(row) >> 1, Nonce: anySmall(row), Gas: anySmall(row), To: anyAddress(row), Value: anyNumber(row), Data: row.Text(row.Below(80)), R: anyNumber(row), S: anyNumber(row), V: api.U256{uint64(row.Below(2))}}
	if kind < 3 && row.Below(3) == 0 {
		x.Create, x.To = true, nobody
	}
	if kind < 2 {
		x.Price = anyNumber(row)
	} else {
		x.Tip, x.Cap = anyNumber(row), anyNumber(row)
	}
	switch kind {
	case 0:
		x.Chain = uint64(row.Below(3))
		x.V[0] += []uint64{27, 37, 39}[x.Chain]
		return x
	case 3:
		x.BlobCap, x.BlobHashes = anyNumber(row), append(several(row, 3, anyBlob), anyBlob(row))
	case 4:
		x.Auths = append(several(row, 2, anyAuth), anyAuth(row))
	}
	x.Access = several(row, 2, anyEntry)
	return x
}

// plainTx tells the least well-formed transaction of a type.
func plainTx(kind int) api.Tx {
	return []api.Tx{
		{Type: 0, V: api.U256{27}}, {Type: 1}, {Type: 2}, {Type: 3, BlobHashes: []api.Hash{{1}}}, {Type: 4, Auths: []api.Auth{{}}},
	}[kind]
}

// signed tells the bytes of a transaction of a type that a key has signed.
func signed(row *chance.Row, kind int, key uint64) []byte {
	x, e := signing.Sign(anyTx(row, kind), api.U256{key})
	b, f := tx.Encode(x)
	if e != api.OK || f != api.OK {
		panic("not to be signed")
	}
	return b
}

func anyLog(row *chance.Row) api.Log {
	return api.Log{Address: anyAddress(row), Topics: several(row, 4, anyHash), Data: row.Text(row.Below(60))}
}

func withBloom(r api.Receipt) api.Receipt {
	r.Bloom = receipt.BloomOf(r.Logs)
	return r
}

// anyReceipt tells a well-formed receipt of a type.
func anyReceipt(row *chance.Row, kind int) api.Receipt {
	r := api.Receipt{Type: kind, Status: uint64(row.Below(2)), Used: anySmall(row), Logs: several(row, 3, anyLog)}
	if kind == 0 && row.Below(3) == 0 {
		r.Rooted, r.Root, r.Status = true, anyHash(row), 0
	}
	return withBloom(r)
}

// anyHeader tells a well-formed header of a tail.
func anyHeader(row *chance.Row, tail int) api.Header {
	h := api.Header{Parent: anyHash(row), Coinbase: anyAddress(row), TxRoot: anyHash(row), Difficulty: anyNumber(row), Number: anySmall(row), Limit: anySmall(row), Extra: row.Text(row.Below(33)), Nonce: [8]byte(row.Text(8)), Tail: tail}
	if tail >= 1 {
		h.BaseFee = anyNumber(row)
	}
	if tail >= 3 {
		h.BlobUsed, h.Beacon = anySmall(row), anyHash(row)
	}
	return h
}

// anyBlock tells a well-formed block of a tail; its header is seldom that of what it holds.
func anyBlock(row *chance.Row, tail int) api.Block {
	b := api.Block{Header: anyHeader(row, tail), Drawn: tail >= 2}
	b.Txs = several(row, 3, func(row *chance.Row) api.Tx { return anyTx(row, row.Below(kinds)) })
	b.Uncles = several(row, 2, func(row *chance.Row) api.Header { return anyHeader(row, row.Below(tails)) })
	if b.Drawn {
		b.Withdrawals = make([]api.Withdrawal, row.Below(3))
	}
	return b
}

// anyThing tells the bytes of a transaction, a receipt, a header or a block, and its weight.
func anyThing(row *chance.Row, n int) ([]byte, int) {
	var b []byte
	var e api.Errno
	switch n % 4 {
	case 0:
		b, e = tx.Encode(anyTx(row, row.Below(kinds)))
	case 1:
		b, e = receipt.Encode(anyReceipt(row, row.Below(kinds)))
	case 2:
		b, e = header.Encode(anyHeader(row, row.Below(tails)))
	case 3:
		b, e = block.Encode(anyBlock(row, row.Below(tails)))
	}
	if e != api.OK {
		panic("not well-formed")
	}
	return b, 1 << (n % 4)
}

// changes are what an item may become by one step: most of them are wrong where it stands.
func changes(it api.Item) []api.Item {
	all := []api.Item{text(), list(), list(it), list(text()), list(list()), text(0), text(1), text(4), text(5), text(0x80), text(0xc0), text(1, 0), text(0, 1), text(1, 0xc0), text(2, 0xc0), text(make([]byte, 20)...), text(make([]byte, 32)...)}
	if n := len(it.Data); n > 0 {
		for _, data := range [][]byte{it.Data[1:], it.Data[:n-1], append([]byte{0}, it.Data...), append(slices.Clone(it.Data), 0), append([]byte{0}, it.Data[1:]...), append([]byte{3}, it.Data[1:]...)} {
			all = append(all, text(data...))
		}
	}
	if n := len(it.Items); n > 0 {
		first, last := it.Items[0], it.Items[n-1]
		for _, items := range [][]api.Item{it.Items[1:], it.Items[:n-1], append(slices.Clone(it.Items), last), append(slices.Clone(it.Items), list()), append([]api.Item{first}, it.Items...)} {
			all = append(all, list(items...))
		}
		all = append(all, first, last, text(modelBytes(it)...))
	}
	return all
}

// eachChange hands over a tree with each item anywhere in it changed in each way, one at a time.
func eachChange(it api.Item, f func(api.Item)) {
	for _, other := range changes(it) {
		f(other)
	}
	for i, inner := range it.Items {
		eachChange(inner, func(other api.Item) { f(replaced(it, i, other)) })
	}
}

// replaced tells a tree with another item at a place of its own list.
func replaced(it api.Item, i int, other api.Item) api.Item {
	it.Items = slices.Clone(it.Items)
	it.Items[i] = other
	return it
}

// spoilt tells bytes with a step or several away from what they were.
func spoilt(row *chance.Row, b []byte) []byte {
	b = slices.Clone(b)
	for range 1 + row.Below(2) {
		at := row.Below(len(b))
		switch row.Below(4) {
		case 0:
			b = b[:at]
		case 1:
			b = slices.Insert(b, at, byte(row.Next()))
		default:
			if at < len(b) {
				b[at] = byte(row.Next())
			}
		}
	}
	return b
}

// The helpers themselves: an error in them would hide one in the program.
func TestHelpers(t *testing.T) {
	tree := list(text('c', 'a', 't'), text(), text(0x7f), text(0x80), list())
	if got := modelBytes(tree); !bytes.Equal(got, digits("c9 83636174 80 7f 8180 c0")) {
		t.Errorf("modelBytes: %x", got)
	}
	if noEntries != keccak.Sum([]byte{0x80}) || number("01 0000000000000002") != (api.U256{2, 1}) {
		t.Error("noEntries or number")
	}
	a := []api.Receipt{{Used: 1}, {Logs: []api.Log{{Topics: []api.Hash{{1}, {2}}, Data: []byte{3}}}}}
	for i, b := range [][]api.Receipt{nil, a[:1], {{Used: 2}, a[1]}, {a[0], {}}, {a[0], {Logs: []api.Log{{Topics: []api.Hash{{1}, {3}}, Data: []byte{3}}}}}, {a[0], {Logs: []api.Log{{Topics: []api.Hash{{1}, {2}}, Data: []byte{4}}}}}} {
		if same(a, b) || !same(b, b) {
			t.Errorf("%d is the same", i)
		}
	}
	if !same([]api.Tx{}, nil) || !same(api.Tx{Data: []byte{}}, api.Tx{}) || !isNone([]api.Log{}) || isNone(api.Tx{Nonce: 1}) {
		t.Error("nil and empty")
	}
	steps := 0
	eachChange(tree, func(it api.Item) { steps++ })
	if steps < 100 {
		t.Errorf("%d changes", steps)
	}
	row := chance.Row(2500)
	for n := range 400 {
		b, want := anyThing(&row, n)
		if got, e := modelKind(b); got != want || e != api.OK {
			t.Errorf("modelKind: %d, want %d", got, want)
		}
	}
	checkPaper(t, txs())
	checkPaper(t, receipts())
}

// checkPaper holds the things to try against what they are said to be.
func checkPaper[T any](t *testing.T, p paper[T]) {
	t.Helper()
	row := chance.Row(2501)
	for n := range 100 {
		for _, x := range []T{p.any(&row, n%kinds), p.plain(n % kinds), p.grown(n%kinds, n)} {
			if b, e := p.encode(x); e != api.OK || p.kind(x) != n%kinds || len(b) == 0 {
				t.Errorf("not well-formed: %d, %+v", e, x)
			}
		}
		one := []T{p.any(&row, n%kinds), p.any(&row, n%3)}
		b, e := p.modelEncode(one)
		again, f := p.modelDecode(b)
		if e != api.OK || f != api.OK || !same(again, one) {
			t.Errorf("the models, there and back: %d, %d", e, f)
		}
	}
	seen := map[api.Errno]bool{}
	for _, x := range p.wrongs {
		_, e := p.encode(x)
		seen[e] = true
	}
	if seen[api.OK] || len(seen) < 4 {
		t.Errorf("the errors of the wrong ones: %v", seen)
	}
}
