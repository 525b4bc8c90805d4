package receipt_test

import (
	"bytes"
	"encoding/hex"
	"math/big"
	"slices"
	"strings"
	"testing"

	"waybill/api"
	"waybill/chance"
	"waybill/keccak"
	"waybill/rlp"
)

const (
	most     = 1<<64 - 1 // the greatest limb
	maxInput = 16777216
	kinds    = 5
)

var (
	nothing api.Item
	noBloom api.Bloom
)

// digits reads bytes in hexadecimal digits, blanks between them or not.
func digits(s string) []byte {
	b, err := hex.DecodeString(strings.ReplaceAll(s, " ", ""))
	if err != nil {
		panic("not digits: " + s)
	}
	return b
}

func text(b ...byte) api.Item { return api.Item{Data: b} }

func list(items ...api.Item) api.Item { return api.Item{List: true, Items: items} }

func filled(b byte, n int) api.Item { return text(bytes.Repeat([]byte{b}, n)...) }

// same tells whether two trees are the same; nil and empty are (P0.4).
func same(a, b api.Item) bool {
	return a.List == b.List && bytes.Equal(a.Data, b.Data) && slices.EqualFunc(a.Items, b.Items, same)
}

func sameLog(a, b api.Log) bool {
	return a.Address == b.Address && slices.Equal(a.Topics, b.Topics) && bytes.Equal(a.Data, b.Data)
}

func sameLogs(a, b []api.Log) bool { return slices.EqualFunc(a, b, sameLog) }

func sameReceipt(a, b api.Receipt) bool {
	return a.Type == b.Type && a.Rooted == b.Rooted && a.Root == b.Root && a.Status == b.Status && a.Used == b.Used && a.Bloom == b.Bloom && sameLogs(a.Logs, b.Logs)
}

func isNoLog(l api.Log) bool { return sameLog(l, api.Log{}) }

func isNoReceipt(r api.Receipt) bool { return sameReceipt(r, api.Receipt{}) }

func short(b []byte) []byte { return b[:min(len(b), 200)] }

// The models follow the chapter's words. What the chapter leaves to rlp.Decode is layer 7's and digests are layer 2's, which have tests of their own.

func modelHead(first byte, n int) []byte {
	if n <= 55 {
		return []byte{first + byte(n)}
	}
	length := big.NewInt(int64(n)).Bytes()
	return append([]byte{first + 0x37 + byte(len(length))}, length...)
}

func modelBytes(it api.Item) []byte {
	if !it.List {
		if len(it.Data) == 1 && it.Data[0] < 0x80 {
			return []byte{it.Data[0]}
		}
		return append(modelHead(0x80, len(it.Data)), it.Data...)
	}
	var held []byte
	for _, inner := range it.Items {
		held = append(held, modelBytes(inner)...)
	}
	return append(modelHead(0xc0, len(held)), held...)
}

// modelSize tells how many bytes an item has, without making them.
func modelSize(it api.Item) int {
	if !it.List {
		if len(it.Data) == 1 && it.Data[0] < 0x80 {
			return 1
		}
		return len(modelHead(0x80, len(it.Data))) + len(it.Data)
	}
	held := 0
	for _, inner := range it.Items {
		held += modelSize(inner)
	}
	return len(modelHead(0xc0, held)) + held
}

func small(v uint64) api.Item { return text(new(big.Int).SetUint64(v).Bytes()...) }

func logTree(l api.Log) api.Item {
	topics := list()
	for _, topic := range l.Topics {
		topics.Items = append(topics.Items, text(topic[:]...))
	}
	return list(text(l.Address[:]...), topics, text(l.Data...))
}

func modelLogItem(l api.Log) (api.Item, api.Errno) {
	if len(l.Topics) > 4 {
		return nothing, api.ErrRcTopics
	}
	if modelSize(logTree(l)) > maxInput {
		return nothing, api.ErrLong
	}
	return logTree(l), api.OK
}

func isText(it api.Item) bool { return !it.List && len(it.Items) == 0 }

func isList(it api.Item) bool { return it.List && len(it.Data) == 0 }

func isFixed(it api.Item, n int) bool { return isText(it) && len(it.Data) == n }

func modelParseLog(it api.Item) (api.Log, api.Errno) {
	if !isList(it) || len(it.Items) != 3 || !isFixed(it.Items[0], 20) || !isList(it.Items[1]) || !isText(it.Items[2]) {
		return api.Log{}, api.ErrRcField
	}
	l := api.Log{Address: api.Address(it.Items[0].Data), Data: it.Items[2].Data}
	for _, topic := range it.Items[1].Items {
		if !isFixed(topic, 32) {
			return api.Log{}, api.ErrRcField
		}
		l.Topics = append(l.Topics, api.Hash(topic.Data))
	}
	if len(l.Topics) > 4 {
		return api.Log{}, api.ErrRcTopics
	}
	return l, api.OK
}

// textsOf tells all addresses and topics of logs.
func textsOf(logs []api.Log) [][]byte {
	var texts [][]byte
	for _, l := range logs {
		texts = append(texts, slices.Clone(l.Address[:]))
		for _, topic := range l.Topics {
			texts = append(texts, slices.Clone(topic[:]))
		}
	}
	return texts
}

// bitsOf tells the three bits of a text, as chapter 10 has them.
func bitsOf(text []byte) [3]int {
	digest := keccak.Sum(text)
	var places [3]int
	for i := range places {
		places[i] = (int(digest[2*i])<<8 | int(digest[2*i+1])) & 2047
	}
	return places
}

// modelBloom lays the bits out through math/big: bit j has the weight 2^j of a number whose last byte is the lowest.
func modelBloom(logs []api.Log) api.Bloom {
	n := new(big.Int)
	for _, text := range textsOf(logs) {
		for _, place := range bitsOf(text) {
			n.SetBit(n, place, 1)
		}
	}
	return api.Bloom(n.FillBytes(make([]byte, 256)))
}

func modelCheck(r api.Receipt) api.Errno {
	if r.Type != 0 && r.Type != 1 && r.Type != 2 && r.Type != 3 && r.Type != 4 {
		return api.ErrRcType
	}
	if r.Rooted && (r.Type != 0 || r.Status != 0) || !r.Rooted && (r.Root != api.Hash{} || r.Status > 1) {
		return api.ErrRcField
	}
	for _, l := range r.Logs {
		if len(l.Topics) > 4 {
			return api.ErrRcTopics
		}
	}
	if r.Bloom != modelBloom(r.Logs) {
		return api.ErrRcBloom
	}
	return api.OK
}

func modelMake(kind int, status, used uint64, logs []api.Log) (api.Receipt, api.Errno) {
	r := api.Receipt{Type: kind, Status: status, Used: used, Logs: logs, Bloom: modelBloom(logs)}
	if e := modelCheck(r); e != api.OK {
		return api.Receipt{}, e
	}
	return r, api.OK
}

// modelTree tells the list of a receipt's items.
func modelTree(r api.Receipt) api.Item {
	first := small(r.Status)
	if r.Rooted {
		first = text(r.Root[:]...)
	}
	logs := list()
	for _, l := range r.Logs {
		logs.Items = append(logs.Items, logTree(l))
	}
	return list(first, small(r.Used), text(r.Bloom[:]...), logs)
}

// sealed tells the bytes of a list as an envelope of a type has them.
func sealed(kind int, it api.Item) []byte {
	if kind == 0 {
		return modelBytes(it)
	}
	return append([]byte{byte(kind)}, modelBytes(it)...)
}

func sealedSize(kind int, it api.Item) int {
	if kind == 0 {
		return modelSize(it)
	}
	return 1 + modelSize(it)
}

func modelEncode(r api.Receipt) ([]byte, api.Errno) {
	if e := modelCheck(r); e != api.OK {
		return nil, e
	}
	if sealedSize(r.Type, modelTree(r)) > maxInput {
		return nil, api.ErrLong
	}
	return sealed(r.Type, modelTree(r)), api.OK
}

// modelFields reads the items of a receipt of a type; false: one of the first three may not be, or the fourth is no list.
func modelFields(kind int, items []api.Item) (api.Receipt, bool) {
	r := api.Receipt{Type: kind}
	first, used, filter := items[0], items[1], items[2]
	switch {
	case isFixed(first, 0):
	case isFixed(first, 1) && first.Data[0] == 1:
		r.Status = 1
	case isFixed(first, 32) && kind == 0:
		r.Rooted, r.Root = true, api.Hash(first.Data)
	default:
		return api.Receipt{}, false
	}
	if !isText(used) || len(used.Data) > 8 || len(used.Data) > 0 && used.Data[0] == 0 || !isFixed(filter, 256) || !isList(items[3]) {
		return api.Receipt{}, false
	}
	r.Used, r.Bloom = new(big.Int).SetBytes(used.Data).Uint64(), api.Bloom(filter.Data)
	return r, true
}

func modelDecode(data []byte) (api.Receipt, api.Errno) {
	if len(data) > maxInput {
		return api.Receipt{}, api.ErrLong
	}
	if len(data) == 0 {
		return api.Receipt{}, api.ErrRlpEnd
	}
	kind, rest := 0, data
	switch b := data[0]; {
	case b == 1 || b == 2 || b == 3 || b == 4:
		kind, rest = int(b), data[1:]
	case b <= 0xbf:
		return api.Receipt{}, api.ErrRcType
	}
	it, e := rlp.Decode(rest)
	if e != api.OK {
		return api.Receipt{}, e
	}
	if !it.List || len(it.Items) != 4 {
		return api.Receipt{}, api.ErrRcFields
	}
	r, ok := modelFields(kind, it.Items)
	if !ok {
		return api.Receipt{}, api.ErrRcField
	}
	for _, inner := range it.Items[3].Items {
		l, e := modelParseLog(inner)
		if e != api.OK {
			return api.Receipt{}, e
		}
		r.Logs = append(r.Logs, l)
	}
	if r.Bloom != modelBloom(r.Logs) {
		return api.Receipt{}, api.ErrRcBloom
	}
	return r, api.OK
}

// modelFind counts at how many places a filter takes a log: it must be all of them.
func modelFind(logs []api.Log, addresses []api.Address, topics [][]api.Hash) []int {
	var taken []int
	for n, l := range logs {
		good := 0
		for i, wanted := range topics {
			if i < len(l.Topics) && (len(wanted) == 0 || slices.Index(wanted, l.Topics[i]) >= 0) {
				good++
			}
		}
		whose := len(addresses) == 0
		for _, a := range addresses {
			whose = whose || a == l.Address
		}
		if whose && good == len(topics) {
			taken = append(taken, n)
		}
	}
	return taken
}

func modelGas(receipts []api.Receipt) ([]uint64, api.Errno) {
	var gas []uint64
	for i, r := range receipts {
		ahead := new(big.Int)
		if i > 0 {
			ahead.SetUint64(receipts[i-1].Used)
		}
		own := new(big.Int).Sub(new(big.Int).SetUint64(r.Used), ahead)
		if own.Sign() < 0 {
			return nil, api.ErrRcField
		}
		gas = append(gas, own.Uint64())
	}
	return gas, api.OK
}

// anyAddress and anyTopic tell one by chance, often one of few.

func anyAddress(row *chance.Row) api.Address {
	if row.Below(2) == 0 {
		return api.Address{19: byte(row.Below(3))}
	}
	return api.Address(row.Text(20))
}

func anyTopic(row *chance.Row) api.Hash {
	if row.Below(2) == 0 {
		return api.Hash{31: byte(row.Below(3))}
	}
	return api.Hash(row.Text(32))
}

func anySmall(row *chance.Row) uint64 { return row.Next() >> row.Below(65) }

func anyLog(row *chance.Row) api.Log {
	l := api.Log{Address: anyAddress(row), Data: row.Text(row.Below(80) >> row.Below(7))}
	for range row.Below(5) {
		l.Topics = append(l.Topics, anyTopic(row))
	}
	return l
}

func anyLogs(row *chance.Row, n int) []api.Log {
	var logs []api.Log
	for range n {
		logs = append(logs, anyLog(row))
	}
	return logs
}

// withBloom tells a receipt with the bloom of its logs.
func withBloom(r api.Receipt) api.Receipt {
	r.Bloom = modelBloom(r.Logs)
	return r
}

// anyReceipt tells a well-formed receipt of a type.
func anyReceipt(row *chance.Row, kind int) api.Receipt {
	r := api.Receipt{Type: kind, Status: uint64(row.Below(2)), Used: anySmall(row), Logs: anyLogs(row, row.Below(4))}
	if kind == 0 && row.Below(3) == 0 {
		r.Rooted, r.Root, r.Status = true, anyTopic(row), 0
	}
	return withBloom(r)
}

// cloned tells logs in memory of their own.
func cloned(logs []api.Log) []api.Log {
	logs = slices.Clone(logs)
	for i, l := range logs {
		logs[i].Topics, logs[i].Data = slices.Clone(l.Topics), slices.Clone(l.Data)
	}
	return logs
}

// changes are what an item may become by one step: most of them are wrong where it stands.
func changes(it api.Item) []api.Item {
	all := []api.Item{text(), list(), list(it), list(text()), list(list()), text(0), text(1), text(2), text(0x80), text(1, 0), text(0, 1)}
	for _, n := range []int{8, 9, 19, 20, 21, 31, 32, 33, 255, 256, 257} {
		all = append(all, filled(0, n), filled(1, n), filled(0xff, n))
	}
	if n := len(it.Data); n > 0 {
		for _, data := range [][]byte{it.Data[1:], it.Data[:n-1], append([]byte{0}, it.Data...), append(slices.Clone(it.Data), 0), append([]byte{0}, it.Data[1:]...), append([]byte{2}, it.Data[1:]...)} {
			all = append(all, text(data...))
		}
		all = append(all, list(it, it))
	}
	if n := len(it.Items); n > 0 {
		swapped := slices.Clone(it.Items)
		swapped[0], swapped[n-1] = swapped[n-1], swapped[0]
		last := it.Items[n-1]
		for _, items := range [][]api.Item{it.Items[1:], it.Items[:n-1], append(slices.Clone(it.Items), last), append(slices.Clone(it.Items), last, last, last, last), append(slices.Clone(it.Items), list()), append([]api.Item{text()}, it.Items...), swapped} {
			all = append(all, list(items...))
		}
		all = append(all, it.Items[0], last)
	}
	return all
}

// eachChange hands over a tree with each item anywhere in it changed in each way, one at a time.
func eachChange(it api.Item, f func(api.Item)) {
	for _, other := range changes(it) {
		f(other)
	}
	for i, inner := range it.Items {
		eachChange(inner, func(other api.Item) { f(replaced(it, i, other)) })
	}
}

// eachOdd hands over a tree with each item anywhere in it made odd, one at a time.
func eachOdd(it api.Item, f func(api.Item)) {
	odd := it
	if it.List {
		for _, data := range [][]byte{{0}, {1}, make([]byte, 20), make([]byte, 32)} {
			odd.Data = data
			f(odd)
		}
		if len(it.Items) > 0 { // items, but not said to be a list
			f(api.Item{Items: it.Items})
		}
	} else {
		for _, items := range [][]api.Item{{text()}, {list()}, {text(make([]byte, 20)...), list(), text()}} {
			odd.Items = items
			f(odd)
		}
		f(api.Item{List: true, Data: append([]byte{1}, it.Data...)}) // bytes, but said to be a list
	}
	for i, inner := range it.Items {
		eachOdd(inner, func(other api.Item) { f(replaced(it, i, other)) })
	}
}

// replaced tells a tree with another item at a place of its own list.
func replaced(it api.Item, i int, other api.Item) api.Item {
	it.Items = slices.Clone(it.Items)
	it.Items[i] = other
	return it
}

// spoilt changes an item by chance, somewhere in the tree.
func spoilt(row *chance.Row, it api.Item) api.Item {
	if len(it.Items) > 0 && row.Below(10) > 0 {
		i := row.Below(len(it.Items))
		return replaced(it, i, spoilt(row, it.Items[i]))
	}
	all := changes(it)
	return all[row.Below(len(all))]
}

// The helpers themselves: an error in them would hide one in the program.
func TestHelpers(t *testing.T) {
	row := chance.Row(1700)
	tree := list(text('c', 'a', 't'), text(), text(0x7f), text(0x80), list())
	if got := modelBytes(tree); !bytes.Equal(got, digits("c9 83636174 80 7f 8180 c0")) || modelSize(tree) != len(got) {
		t.Errorf("modelBytes: %x", got)
	}
	log := api.Log{Address: api.Address{19: 1}, Topics: []api.Hash{{31: 2}}}
	want := new(big.Int)
	for _, bit := range []int{87, 128, 680, 1128, 1585, 2042} {
		want.SetBit(want, bit, 1)
	}
	if b := modelBloom([]api.Log{log}); !bytes.Equal(b[:], want.FillBytes(make([]byte, 256))) || modelBloom(nil) != noBloom {
		t.Errorf("modelBloom: %x", b)
	}
	rooted, bare := 0, 0
	for n := range 1000 {
		r := anyReceipt(&row, n%kinds)
		b, e := modelEncode(r)
		if s, f := modelDecode(b); e != api.OK || f != api.OK || !sameReceipt(r, s) || len(b) != sealedSize(r.Type, modelTree(r)) || !sameLogs(r.Logs, cloned(r.Logs)) {
			t.Errorf("the models, there and back: %d, %d", e, f)
		}
		if r.Rooted {
			rooted++
		}
		if len(r.Logs) == 0 {
			bare++
		}
	}
	if rooted < 30 || bare < 100 {
		t.Errorf("%d receipts with a root, %d without logs", rooted, bare)
	}
	whole := modelTree(withBloom(api.Receipt{Logs: []api.Log{log, {Data: []byte("x")}}}))
	before := modelBytes(whole)
	steps, alike, odd := 0, 0, 0
	eachChange(whole, func(other api.Item) {
		steps++
		if same(other, whole) {
			alike++
		}
	})
	eachOdd(whole, func(other api.Item) {
		odd++
		if rlp.Check(other) != api.ErrRlpItem {
			t.Errorf("%v is not odd", other)
		}
	})
	if steps < 500 || alike > steps/10 || odd != 8*4+6*4+5 || !bytes.Equal(modelBytes(whole), before) {
		t.Errorf("%d changes, %d of them none, %d odd ones, or the tree has changed", steps, alike, odd)
	}
}
