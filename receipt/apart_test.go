package receipt_test

import (
	"bytes"
	"slices"
	"sync"
	"testing"

	"waybill/api"
	"waybill/chance"
	"waybill/receipt"
)

func paint[T any](all []T, colour T) {
	for i := range all {
		all[i] = colour
	}
}

func isPainted[T any](all []T, is func(T) bool) bool {
	return !slices.ContainsFunc(all, func(one T) bool { return !is(one) })
}

// roomy tells logs again, all their lists with room beyond their ends, in which something stands.
func roomy(row *chance.Row, logs []api.Log) []api.Log {
	all := append(slices.Clone(logs), anyLog(row), anyLog(row))
	for i, l := range all {
		data, _ := row.Roomy(len(l.Data))
		copy(data, l.Data)
		all[i].Data = data
		all[i].Topics = append(slices.Clone(l.Topics), anyTopic(row), anyTopic(row))[:len(l.Topics)]
	}
	return all[:len(logs)]
}

// whole tells logs with all that stands in the room beyond their lists' ends, in memory of its own.
func whole(logs []api.Log) []api.Log {
	logs = slices.Clone(logs[:cap(logs)])
	for i, l := range logs {
		logs[i].Topics, logs[i].Data = slices.Clone(l.Topics[:cap(l.Topics)]), slices.Clone(l.Data[:cap(l.Data)])
	}
	return logs
}

// spoil paints all that logs hold, the room beyond their ends too.
func spoil(logs []api.Log) {
	for _, l := range logs[:cap(logs)] {
		paint(l.Topics[:cap(l.Topics)], api.Hash{0xee})
		paint(l.Data[:cap(l.Data)], 0xee)
	}
	paint(logs[:cap(logs)], api.Log{Address: api.Address{0xee}})
}

// areLogsApart paints each list of each log in a colour of its own, with the room beyond its end, and tells whether each one keeps it. The logs are spoilt then.
func areLogsApart(logs []api.Log) bool {
	for i, l := range logs {
		paint(l.Topics[:cap(l.Topics)], api.Hash{byte(i)})
		paint(l.Data[:cap(l.Data)], byte(i))
	}
	for i, l := range logs {
		if !isPainted(l.Topics[:cap(l.Topics)], func(h api.Hash) bool { return h == api.Hash{byte(i)} }) || !isPainted(l.Data[:cap(l.Data)], func(b byte) bool { return b == byte(i) }) {
			return false
		}
	}
	return true
}

// areItemsApart does it with each text and each list of items in a tree.
func areItemsApart(it api.Item) bool {
	var texts [][]byte
	var lists [][]api.Item
	var walk func(it api.Item)
	walk = func(it api.Item) {
		texts, lists = append(texts, it.Data[:cap(it.Data)]), append(lists, it.Items[:cap(it.Items)])
		for _, inner := range it.Items {
			walk(inner)
		}
	}
	walk(it)
	for i := range texts {
		paint(texts[i], byte(i))
	}
	for i := range lists {
		paint(lists[i], small(uint64(i)))
	}
	for i := range texts {
		if !isPainted(texts[i], func(b byte) bool { return b == byte(i) }) {
			return false
		}
	}
	for i := range lists {
		if !isPainted(lists[i], func(it api.Item) bool { return same(it, small(uint64(i))) }) {
			return false
		}
	}
	return true
}

// P17.12, P0.3: no call writes into logs; what LogItem answers shares nothing with them, nor with another answer.
func TestLogItemApart(t *testing.T) {
	row := chance.Row(1740)
	for range 300 {
		bare := anyLog(&row)
		logs := roomy(&row, []api.Log{bare})
		before := whole(logs)
		first, e := receipt.LogItem(logs[0])
		second, f := receipt.LogItem(logs[0])
		receipt.BloomOf(logs)
		if e != api.OK || f != api.OK || !sameLogs(whole(logs), before) {
			t.Fatalf("%d, %d, or the log was written to", e, f)
		}
		if !areItemsApart(first) || !sameLogs(whole(logs), before) {
			t.Fatal("the parts of an item share memory with each other, or with the log")
		}
		spoil(logs)
		if !same(second, logTree(bare)) {
			t.Fatal("the item changes with the log, or with another item")
		}
	}
}

// roomyTree tells a tree again, all its lists with room beyond their ends, in which something stands.
func roomyTree(row *chance.Row, it api.Item) api.Item {
	data, _ := row.Roomy(len(it.Data))
	copy(data, it.Data)
	items := []api.Item{}
	for _, inner := range it.Items {
		items = append(items, roomyTree(row, inner))
	}
	n := len(items)
	items = append(items, text(1), list(text(2)))
	return api.Item{List: it.List, Data: data, Items: items[:n]}
}

// wholeTree tells a tree with all that stands in the room beyond its lists' ends, in memory of its own.
func wholeTree(it api.Item) api.Item {
	it.Data, it.Items = slices.Clone(it.Data[:cap(it.Data)]), slices.Clone(it.Items[:cap(it.Items)])
	for i, inner := range it.Items {
		it.Items[i] = wholeTree(inner)
	}
	return it
}

func spoilTree(it api.Item) {
	for _, inner := range it.Items[:cap(it.Items)] {
		spoilTree(inner)
	}
	paint(it.Data[:cap(it.Data)], 0xee)
	paint(it.Items[:cap(it.Items)], text(0xee))
}

// P17.12, P0.3: ParseLog writes nothing into the item, taken or refused; the log shares nothing with it, nor with another one; the room beyond a list's end counts for nothing.
func TestParseLogApart(t *testing.T) {
	row := chance.Row(1741)
	for range 300 {
		bare := anyLog(&row)
		it := roomyTree(&row, logTree(bare))
		before := wholeTree(it)
		first, e := receipt.ParseLog(it)
		second, f := receipt.ParseLog(it)
		if e != api.OK || f != api.OK || !sameLog(first, bare) || !same(wholeTree(it), before) {
			t.Fatalf("%d, %d, or the item was written to", e, f)
		}
		spoil([]api.Log{first})
		if !same(wholeTree(it), before) || !sameLog(second, bare) {
			t.Fatal("the logs share memory with each other, or with the item")
		}
		spoilTree(it)
		if !sameLog(second, bare) {
			t.Fatal("the log changes with the item")
		}
		wrong := roomyTree(&row, spoilt(&row, logTree(bare)))
		before = wholeTree(wrong)
		receipt.ParseLog(wrong)
		if !same(wholeTree(wrong), before) {
			t.Fatal("an item that is refused was written to")
		}
	}
}

// shared tells logs of which two have the same topics and data, in one memory.
func shared(row *chance.Row, n int) []api.Log {
	logs := anyLogs(row, n)
	if n > 1 {
		logs[0].Topics, logs[0].Data = logs[1].Topics, logs[1].Data
	}
	return logs
}

// P17.12, P0.3: the receipt that Make answers shares nothing with the logs, nor with another receipt, nor do its lists with each other.
func TestMakeApart(t *testing.T) {
	row := chance.Row(1742)
	for n := range 300 {
		bare := shared(&row, n%5)
		logs := roomy(&row, bare)
		if len(logs) > 1 {
			logs[0].Topics, logs[0].Data = logs[1].Topics, logs[1].Data
		}
		before := whole(logs)
		first, e := receipt.Make(n%kinds, 1, 7, logs)
		second, f := receipt.Make(n%kinds, 1, 7, logs)
		if e != api.OK || f != api.OK || !sameLogs(first.Logs, bare) || !sameLogs(whole(logs), before) {
			t.Fatalf("%d, %d, or the logs were written to", e, f)
		}
		if !areLogsApart(first.Logs) {
			t.Fatal("the lists of a receipt share memory with each other")
		}
		spoil(first.Logs)
		if !sameLogs(whole(logs), before) || !sameLogs(second.Logs, bare) {
			t.Fatal("the receipts share memory with each other, or with the logs")
		}
		spoil(logs)
		if !sameLogs(second.Logs, bare) || receipt.Check(second) != api.OK {
			t.Fatal("the receipt changes with the logs")
		}
	}
}

// P17.12, P0.3: Check and Encode write nothing into a receipt, taken or refused; the bytes share nothing with it, nor with others.
func TestEncodeApart(t *testing.T) {
	row := chance.Row(1743)
	for n := range 300 {
		r := withBloom(api.Receipt{Type: n % kinds, Status: 1, Used: anySmall(&row), Logs: shared(&row, n%4)})
		want := sealed(r.Type, modelTree(r))
		r.Logs = roomy(&row, r.Logs)
		before := whole(r.Logs)
		b, e := receipt.Encode(r)
		c, f := receipt.Encode(r)
		if e != api.OK || f != api.OK || receipt.Check(r) != api.OK || !sameLogs(whole(r.Logs), before) {
			t.Fatalf("%d, %d, or the receipt was written to", e, f)
		}
		paint(b[:cap(b)], 0xee)
		if !sameLogs(whole(r.Logs), before) {
			t.Fatal("the bytes share memory with the receipt")
		}
		wrong := r
		wrong.Bloom[5] ^= 1
		receipt.Encode(wrong)
		wrong.Status = 3
		receipt.Check(wrong)
		if !sameLogs(whole(r.Logs), before) {
			t.Fatal("a receipt that is refused was written to")
		}
		spoil(r.Logs)
		if !bytes.Equal(c, want) {
			t.Fatal("the bytes change with the receipt, or with others")
		}
	}
}

// P17.12, P0.3: Decode writes nothing into the bytes, taken or refused; the receipt shares nothing with them, nor with another one, nor do its lists with each other.
func TestDecodeApart(t *testing.T) {
	row := chance.Row(1744)
	for n := range 300 {
		bare := withBloom(api.Receipt{Type: n % kinds, Status: 1, Used: anySmall(&row), Logs: shared(&row, n%4)})
		data := sealed(bare.Type, modelTree(bare))
		b, memory := row.Roomy(len(data))
		copy(b, data)
		before := slices.Clone(memory)
		first, e := receipt.Decode(b)
		second, f := receipt.Decode(b)
		if e != api.OK || f != api.OK || !sameReceipt(first, bare) || !bytes.Equal(memory, before) {
			t.Fatalf("%d, %d, or the bytes were written to", e, f)
		}
		if !areLogsApart(first.Logs) {
			t.Fatal("the lists of a receipt share memory with each other")
		}
		spoil(first.Logs)
		if !bytes.Equal(memory, before) || !sameReceipt(second, bare) {
			t.Fatal("the receipts share memory with each other, or with the bytes")
		}
		paint(memory, 0xee)
		if !sameReceipt(second, bare) {
			t.Fatal("the receipt changes with the bytes")
		}
	}
	for range 2000 {
		kind := row.Below(kinds)
		data := sealed(kind, spoilt(&row, modelTree(anyReceipt(&row, kind))))
		b, memory := row.Roomy(len(data))
		copy(b, data)
		before := slices.Clone(memory)
		receipt.Decode(b)
		if !bytes.Equal(memory, before) {
			t.Fatal("bytes that are refused were written to")
		}
	}
}

// P17.12, P0.3: Find and Gas write nothing into what they are given, and their answers are apart.
func TestFindAndGasApart(t *testing.T) {
	row := chance.Row(1745)
	for n := range 200 {
		bare := shared(&row, n%6)
		logs := roomy(&row, bare)
		addresses := []api.Address{{19: 2}, {19: 1}, {19: 0}, {9}}
		topics := [][]api.Hash{{{31: 2}, {31: 0}, {31: 1}, {9}}, {}, {{9}}}
		topics[0] = topics[0][:3]
		before := whole(logs)
		first := receipt.Find(logs, addresses[:3], topics[:1])
		second := receipt.Find(logs, addresses[:3], topics[:1])
		paint(first[:cap(first)], -5)
		if !slices.Equal(second, modelFind(bare, addresses[:3], topics[:1])) || !sameLogs(whole(logs), before) {
			t.Fatal("Find's answers share memory, or the logs were written to")
		}
		if !slices.Equal(addresses, []api.Address{{19: 2}, {19: 1}, {19: 0}, {9}}) || !slices.Equal(topics[0][:4], []api.Hash{{31: 2}, {31: 0}, {31: 1}, {9}}) || len(topics[1]) != 0 || !slices.Equal(topics[2], []api.Hash{{9}}) {
			t.Fatal("the filter was written to")
		}
		receipts := []api.Receipt{{Used: 3, Logs: logs}, {Used: 5}, {Used: 4}}
		gas, _ := receipt.Gas(receipts[:2])
		again, e := receipt.Gas(receipts[:2])
		paint(gas[:cap(gas)], 99)
		if !slices.Equal(again, []uint64{3, 2}) || e != api.OK || !sameLogs(whole(logs), before) || receipts[0].Used != 3 || receipts[1].Used != 5 || receipts[2].Used != 4 {
			t.Fatalf("Gas = %v, %d, or the receipts were written to", again, e)
		}
	}
}

// P0.4: nil and a list of length 0 are the same.
func TestNilAndEmpty(t *testing.T) {
	for kind := range kinds {
		a := api.Receipt{Type: kind}
		b := api.Receipt{Type: kind, Logs: make([]api.Log, 0, 3)}
		c := withBloom(api.Receipt{Type: kind, Logs: make([]api.Log, 2)})
		d := withBloom(api.Receipt{Type: kind, Logs: []api.Log{{Topics: make([]api.Hash, 0, 3), Data: make([]byte, 0, 3)}, {Topics: []api.Hash{}, Data: []byte{}}}})
		for _, pair := range [][2]api.Receipt{{a, b}, {c, d}} {
			x, e := receipt.Encode(pair[0])
			y, f := receipt.Encode(pair[1])
			if !bytes.Equal(x, y) || e != api.OK || f != api.OK || receipt.Check(pair[1]) != api.OK {
				t.Errorf("type %d, nil and empty lists: %x, %d; %x, %d", kind, x, e, y, f)
			}
			v, e := receipt.Make(kind, 0, 0, pair[0].Logs)
			w, f := receipt.Make(kind, 0, 0, pair[1].Logs)
			if !sameReceipt(v, w) || e != api.OK || f != api.OK {
				t.Errorf("type %d, Make of nil and empty lists: %+v, %d; %+v, %d", kind, v, e, w, f)
			}
		}
	}
	log := api.Item{List: true, Data: []byte{}, Items: []api.Item{{Data: make([]byte, 20), Items: []api.Item{}}, {List: true, Data: []byte{}, Items: []api.Item{}}, {Data: []byte{}, Items: []api.Item{}}}}
	if l, e := receipt.ParseLog(log); !isNoLog(l) || e != api.OK {
		t.Errorf("a log of zeros with empty lists: %v, %d", l, e)
	}
	for _, data := range [][]byte{nil, {}, make([]byte, 0, 5)} {
		wantError(t, data, api.ErrRlpEnd)
	}
}

// P0.6: the same again has the same answer, also while others ask at the same time.
func TestSameAgain(t *testing.T) {
	row := chance.Row(1746)
	var all []api.Receipt
	for kind := range kinds {
		all = append(all, anyReceipt(&row, kind))
	}
	var workers sync.WaitGroup
	for first := range 8 {
		workers.Go(func() {
			for n := range 100 {
				r := all[(first+n)%kinds]
				want, _ := modelEncode(r)
				b, e := receipt.Encode(r)
				s, f := receipt.Decode(b)
				if !bytes.Equal(b, want) || e != api.OK || f != api.OK || !sameReceipt(r, s) || receipt.Check(s) != api.OK {
					t.Errorf("Encode and Decode: %d, %d", e, f)
				}
				receipt.Decode(b[:len(b)-1])
				receipt.Make(5, 0, 0, r.Logs)
			}
		})
	}
	workers.Wait()
}
