package receipt_test

import (
	"bytes"
	"slices"
	"testing"

	"waybill/api"
	"waybill/bloom"
	"waybill/chance"
	"waybill/receipt"
	"waybill/rlp"
)

// checkLog holds LogItem against its model (P17.1, P0.2), ParseLog of its answer against the log, and tells the error.
func checkLog(t *testing.T, l api.Log) api.Errno {
	t.Helper()
	want, wantE := modelLogItem(l)
	it, e := receipt.LogItem(l)
	if !same(it, want) || e != wantE {
		t.Errorf("LogItem of %d topics, %d bytes: %d, want %d, or not the item that is wanted", len(l.Topics), len(l.Data), e, wantE)
	}
	if e != api.OK {
		return e
	}
	if again, e := receipt.ParseLog(it); !sameLog(again, l) || e != api.OK {
		t.Errorf("ParseLog of LogItem of %d topics, %d bytes: %d", len(l.Topics), len(l.Data), e)
	}
	return e
}

// checkParseLog holds ParseLog against its model (P17.2, P0.2), LogItem of its answer against the item, and tells the error.
func checkParseLog(t *testing.T, it api.Item) api.Errno {
	t.Helper()
	want, wantE := modelParseLog(it)
	l, e := receipt.ParseLog(it)
	if !sameLog(l, want) || e != wantE {
		t.Errorf("ParseLog(%v) = %v, %d, want %v, %d", it, l, e, want, wantE)
	}
	if e != api.OK {
		return e
	}
	if again, e := receipt.LogItem(l); !same(again, it) || e != api.OK {
		t.Errorf("LogItem of ParseLog(%v) = %v, %d", it, again, e)
	}
	return e
}

// wantLog wants just that error of ParseLog, and nothing beside it.
func wantLog(t *testing.T, it api.Item, want api.Errno) {
	t.Helper()
	if l, e := receipt.ParseLog(it); e != want || e != api.OK && !isNoLog(l) {
		t.Errorf("ParseLog(%v) = %v, %d, want %d", it, l, e, want)
	}
	checkParseLog(t, it)
}

// checkBloom holds BloomOf against its model (P17.3, P0.14) and against bloom.Of, and tells it.
func checkBloom(t *testing.T, logs []api.Log) api.Bloom {
	t.Helper()
	b := receipt.BloomOf(logs)
	if b != modelBloom(logs) || b != bloom.Of(textsOf(logs)...) {
		t.Errorf("BloomOf(%v) = %x, want %x", logs, b, modelBloom(logs))
	}
	return b
}

// P17.1 to P17.3: the chapter's second example, as far as it is of the log.
func TestExampleOfLog(t *testing.T) {
	address, topic := api.Address{19: 1}, api.Hash{31: 2}
	l := api.Log{Address: address, Topics: []api.Hash{topic}, Data: []byte("hi")}
	it, e := receipt.LogItem(l)
	want := slices.Concat(digits("f83a 94"), address[:], digits("e1a0"), topic[:], digits("826869"))
	if b, f := rlp.Encode(it); !bytes.Equal(b, want) || len(b) != 60 || e != api.OK || f != api.OK {
		t.Errorf("LogItem: %x, %d, %d", b, e, f)
	}
	if again, e := receipt.ParseLog(it); !sameLog(again, l) || e != api.OK {
		t.Errorf("ParseLog = %v, %d", again, e)
	}
	if bits := bloom.Bits(checkBloom(t, []api.Log{l})); !slices.Equal(bits, []int{87, 128, 680, 1128, 1585, 2042}) {
		t.Errorf("the bits of BloomOf: %v", bits)
	}
}

// P17.1: so many topics, with data of all lengths at which heads change.
func TestLogItem(t *testing.T) {
	row := chance.Row(1701)
	for topics := range 12 {
		want := api.OK
		if topics > 4 {
			want = api.ErrRcTopics
		}
		for _, n := range []int{0, 1, 2, 3, 32, 33, 34, 54, 55, 56, 57, 255, 256, 257, 65535, 65536} {
			for _, b := range []byte{0, 1, 0x7f, 0x80, 0xff} {
				l := api.Log{Address: anyAddress(&row), Topics: slices.Repeat([]api.Hash{anyTopic(&row)}, topics), Data: bytes.Repeat([]byte{b}, n)}
				if e := checkLog(t, l); e != want {
					t.Errorf("LogItem of %d topics, %d bytes: %d", topics, n, e)
				}
			}
		}
	}
	for range 1000 {
		if e := checkLog(t, anyLog(&row)); e != api.OK {
			t.Errorf("LogItem of a short log: %d", e)
		}
	}
	if e := checkLog(t, api.Log{Topics: make([]api.Hash, 100000)}); e != api.ErrRcTopics {
		t.Errorf("LogItem of very many topics: %d", e)
	}
}

// P17.1, P0.7: an item of just MaxInput bytes is made, one of a byte more is not; too many topics count ahead of that.
func TestLogItemLong(t *testing.T) {
	for topics := range 5 {
		l := api.Log{Topics: make([]api.Hash, topics)}
		const heads = 4 + 4 // of the list and of the data, which have more than 65535 bytes and fewer than 2^24
		rest := maxInput - heads - 21 - modelSize(logTree(l).Items[1])
		for n, want := range map[int]api.Errno{rest - 1: api.OK, rest: api.OK, rest + 1: api.ErrLong, rest + 2: api.ErrLong, maxInput - 24: api.ErrLong, maxInput: api.ErrLong, maxInput + 1: api.ErrLong, 1 << 28: api.ErrLong} {
			l.Data = make([]byte, n)
			if e := checkLog(t, l); e != want {
				t.Errorf("LogItem of %d topics, %d bytes: %d, want %d", topics, n, e, want)
			}
		}
		l.Data = make([]byte, rest)
		if got := modelSize(logTree(l)); got != maxInput {
			t.Errorf("a log of %d bytes, not MaxInput", got)
		}
	}
	for _, n := range []int{maxInput, 1 << 28} {
		if it, e := receipt.LogItem(api.Log{Topics: make([]api.Hash, 5), Data: make([]byte, n)}); !same(it, nothing) || e != api.ErrRcTopics {
			t.Errorf("LogItem of 5 topics, %d bytes: %d", n, e)
		}
	}
}

// P17.2: items of which just one thing is not a log's.
func TestParseLogWrong(t *testing.T) {
	address, topic, data := filled(1, 20), filled(2, 32), text('h', 'i')
	topics := func(n int) api.Item { return list(slices.Repeat([]api.Item{topic}, n)...) }
	for n := range 5 {
		wantLog(t, list(address, topics(n), data), api.OK)
		wantLog(t, list(address, topics(n), text()), api.OK)
	}
	for _, it := range []api.Item{
		nothing, text(1), address, list(), list(address), list(address, topics(1)), list(address, topics(1), data, data), list(address, topics(1), data, list()), // none, or not three
		list(topics(1), address, data), list(address, data, topics(1)), list(data, topics(1), address), // in another order
		list(list(), topics(1), data), list(list(address), topics(1), data), list(address, topics(1), list()), list(address, topics(1), list(data)), list(address, text(), data), list(address, topic, data), // a list for a text, a text for a list
		list(address, list(list()), data), list(address, list(list(topic)), data), list(address, list(topics(1)), data), list(list(address, topics(1), data)),
	} {
		wantLog(t, it, api.ErrRcField)
	}
	for n := range 300 {
		want := func(length int) api.Errno {
			if n == length {
				return api.OK
			}
			return api.ErrRcField
		}
		wantLog(t, list(filled(7, n), topics(2), data), want(20))
		wantLog(t, list(address, list(filled(7, n)), data), want(32))
		wantLog(t, list(address, list(topic, topic, topic, filled(7, n)), data), want(32))
		wantLog(t, list(address, list(filled(7, n), topic, topic, topic), data), want(32))
		wantLog(t, list(address, topics(2), filled(7, n)), api.OK)
	}
}

// P17.2: too many topics are told only where all else is a log's.
func TestParseLogTopics(t *testing.T) {
	address, topic := filled(1, 20), filled(2, 32)
	for _, n := range []int{5, 6, 7, 8, 100, 70000} {
		many := list(slices.Repeat([]api.Item{topic}, n)...)
		wantLog(t, list(address, many, text()), api.ErrRcTopics)
		for _, wrong := range []api.Item{filled(2, 31), filled(2, 33), text(), list(), list(topic), {Data: topic.Data, Items: []api.Item{text()}}} {
			for _, at := range []int{0, 1, 3, 4, n - 1} {
				wantLog(t, list(address, replaced(many, at, wrong), text()), api.ErrRcField)
			}
		}
		for _, wrong := range []api.Item{list(filled(1, 19), many, text()), list(list(), many, text()), list(address, many, list()), list(address, many, list(text())), list(address, many), list(address, many, text(), text()), {List: true, Data: []byte{0}, Items: []api.Item{address, many, text()}}} {
			wantLog(t, wrong, api.ErrRcField)
		}
	}
}

// P17.2: a list with bytes and a text with items are none, wherever they stand.
func TestParseLogOdd(t *testing.T) {
	row := chance.Row(1702)
	for range 50 {
		it := logTree(anyLog(&row))
		wantLog(t, it, api.OK)
		eachOdd(it, func(odd api.Item) { wantLog(t, odd, api.ErrRcField) })
	}
}

// P17.2: each item of a tree changed in each way, and trees that are spoilt by chance.
func TestParseLogSpoilt(t *testing.T) {
	row := chance.Row(1703)
	counts := map[api.Errno]int{}
	for range 50 {
		eachChange(logTree(anyLog(&row)), func(it api.Item) { counts[checkParseLog(t, it)]++ })
	}
	for range 5000 {
		it := logTree(anyLog(&row))
		for range 1 + row.Below(3) {
			it = spoilt(&row, it)
		}
		counts[checkParseLog(t, it)]++
	}
	if counts[api.OK] < 500 || counts[api.ErrRcField] < 500 || counts[api.ErrRcTopics] < 50 {
		t.Errorf("an answer hardly ever comes: %v", counts)
	}
}

// P0.1: trees that go very deep are looked at no further than a log goes.
func TestParseLogDeep(t *testing.T) {
	deep := list()
	for range 1 << 15 {
		deep = list(deep)
	}
	address := filled(1, 20)
	for _, it := range []api.Item{deep, list(deep, list(), text()), list(address, deep, text()), list(address, list(deep), text()), list(address, list(), deep)} {
		if l, e := receipt.ParseLog(it); !isNoLog(l) || e != api.ErrRcField {
			t.Errorf("ParseLog of what is deep: %v, %d", l, e)
		}
	}
}

// P17.3, P0.14: all addresses and topics count, their order and how often they stand do not, data never.
func TestBloomOf(t *testing.T) {
	row := chance.Row(1704)
	if checkBloom(t, nil) != noBloom || checkBloom(t, []api.Log{}) != noBloom {
		t.Error("the bloom of no logs has a bit")
	}
	for n := range 60 {
		logs := anyLogs(&row, n)
		b := checkBloom(t, logs)
		bare, twice := cloned(logs), append(cloned(logs), logs...)
		for i := range bare {
			bare[i].Data = row.Text(row.Below(40))
			slices.Reverse(bare[i].Topics)
		}
		slices.Reverse(bare)
		if checkBloom(t, bare) != b || checkBloom(t, twice) != b {
			t.Error("the data, the order, or how often a log stands count")
		}
		for i := range logs {
			if !bloom.Within(receipt.BloomOf(logs[i:i+1]), b) {
				t.Error("a log is missed")
			}
		}
	}
	for _, topics := range []int{0, 1, 4, 5, 9, 100} { // however many topics: nothing is refused here
		l := api.Log{Address: anyAddress(&row)}
		for range topics {
			l.Topics = append(l.Topics, api.Hash(row.Text(32)))
		}
		checkBloom(t, []api.Log{l, {Data: row.Text(20)}})
	}
	if got := bloom.Count(receipt.BloomOf([]api.Log{{}})); got != 3 {
		t.Errorf("a log of zeros has %d bits", got)
	}
}
