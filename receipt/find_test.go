package receipt_test

import (
	"slices"
	"testing"

	"waybill/api"
	"waybill/bloom"
	"waybill/chance"
	"waybill/receipt"
)

// checkFind holds Find against its model (P17.9), its answer against what the bloom says (P17.10), and tells how many it takes.
func checkFind(t *testing.T, logs []api.Log, addresses []api.Address, topics [][]api.Hash) int {
	t.Helper()
	want := modelFind(logs, addresses, topics)
	got := receipt.Find(logs, addresses, topics)
	if !slices.Equal(got, want) {
		t.Errorf("Find(%v, %v, %v) = %v, want %v", logs, addresses, topics, got, want)
	}
	if len(got) == 0 {
		return 0
	}
	b := receipt.BloomOf(logs)
	if len(addresses) == 1 && !bloom.Has(b, addresses[0][:]) {
		t.Errorf("Find takes %v by the address %x, and the bloom lacks it", got, addresses[0])
	}
	for i, wanted := range topics {
		if len(wanted) == 1 && !bloom.Has(b, wanted[0][:]) {
			t.Errorf("Find takes %v by the topic %x at %d, and the bloom lacks it", got, wanted[0], i)
		}
	}
	return len(got)
}

// P17.9: the chapter's fourth example.
func TestExamplesOfFind(t *testing.T) {
	a, b, other := api.Address{1}, api.Address{2}, api.Address{3}
	one, two, three := api.Hash{31: 1}, api.Hash{31: 2}, api.Hash{31: 3}
	logs := []api.Log{{Address: a, Topics: []api.Hash{one, two}}, {Address: b, Topics: []api.Hash{one}}, {Address: a}}
	for i, c := range []struct {
		addresses []api.Address
		topics    [][]api.Hash
		want      []int
	}{
		{[]api.Address{a}, nil, []int{0, 2}},
		{nil, [][]api.Hash{{one}}, []int{0, 1}},
		{nil, [][]api.Hash{{}, {two}}, []int{0}},
		{nil, [][]api.Hash{{}}, []int{0, 1}},
		{[]api.Address{b}, [][]api.Hash{{one, three}}, []int{1}},
		{nil, nil, []int{0, 1, 2}},
		{[]api.Address{}, [][]api.Hash{}, []int{0, 1, 2}},
		{[]api.Address{a, b}, nil, []int{0, 1, 2}},
		{[]api.Address{b, a, a}, [][]api.Hash{nil}, []int{0, 1}},
		{[]api.Address{other}, nil, nil},
		{[]api.Address{a}, [][]api.Hash{{one}}, []int{0}},
		{nil, [][]api.Hash{{two}}, nil},
		{nil, [][]api.Hash{{one}, {one}}, nil},
		{nil, [][]api.Hash{{three, one}, {three, two}}, []int{0}},
		{nil, [][]api.Hash{{one}, nil}, []int{0}},
		{nil, [][]api.Hash{nil, nil}, []int{0}},
		{nil, [][]api.Hash{nil, nil, nil}, nil},
		{nil, make([][]api.Hash, 9), nil},
	} {
		if got := receipt.Find(logs, c.addresses, c.topics); !slices.Equal(got, c.want) {
			t.Errorf("%d: Find(logs, %x, %x) = %v, want %v", i, c.addresses, c.topics, got, c.want)
		}
		checkFind(t, logs, c.addresses, c.topics)
		if got := receipt.Find(nil, c.addresses, c.topics); len(got) != 0 {
			t.Errorf("%d: Find of no logs = %v", i, got)
		}
	}
}

// P17.9: all filters of one or no address and of up to three places over two topics, of all logs of up to three topics.
func TestFindAll(t *testing.T) {
	x, y := api.Hash{1}, api.Hash{2}
	var logs []api.Log
	rows := [][]api.Hash{nil}
	for from := 0; len(rows[from]) < 3; from++ {
		for _, h := range []api.Hash{x, y} {
			rows = append(rows, append(slices.Clone(rows[from]), h))
		}
	}
	for _, row := range rows {
		logs = append(logs, api.Log{Address: api.Address{1}, Topics: row}, api.Log{Address: api.Address{2}, Topics: row})
	}
	filters := [][][]api.Hash{nil}
	for from := 0; len(filters[from]) < 3; from++ {
		for _, wanted := range [][]api.Hash{nil, {x}, {y}, {x, y}, {{3}}} {
			filters = append(filters, append(slices.Clone(filters[from]), wanted))
		}
	}
	taken := 0
	for _, addresses := range [][]api.Address{nil, {{1}}, {{2}}, {{1}, {2}}, {{3}}} {
		for _, topics := range filters {
			taken += checkFind(t, logs, addresses, topics)
		}
	}
	if len(logs) != 30 || len(filters) != 156 || taken < 1000 {
		t.Errorf("%d logs, %d filters, %d taken", len(logs), len(filters), taken)
	}
}

// P17.9, P17.10: logs and filters by chance, the logs with more than MaxTopics topics too.
func TestFindByChance(t *testing.T) {
	row := chance.Row(1730)
	some, none := 0, 0
	for range 3000 {
		logs := anyLogs(&row, row.Below(20))
		for i := range logs {
			for range row.Below(7) / 5 * 3 {
				logs[i].Topics = append(logs[i].Topics, anyTopic(&row))
			}
		}
		var addresses []api.Address
		for range row.Below(3) {
			addresses = append(addresses, anyAddress(&row))
		}
		var topics [][]api.Hash
		for range row.Below(4) {
			var wanted []api.Hash
			for range row.Below(4) {
				wanted = append(wanted, anyTopic(&row))
			}
			topics = append(topics, wanted)
		}
		if len(logs) > 0 && row.Below(2) == 0 { // what one of them has
			l := logs[row.Below(len(logs))]
			addresses = append(addresses, l.Address)
			for i := range min(len(topics), len(l.Topics)) {
				topics[i] = append(topics[i], l.Topics[i])
			}
		}
		if checkFind(t, logs, addresses, topics) > 0 {
			some++
		} else {
			none++
		}
	}
	if some < 500 || none < 500 {
		t.Errorf("%d filters take a log, %d none", some, none)
	}
}

// P17.9: addresses and topics count in each of their bits; a topic counts at its own place alone.
func TestFindBits(t *testing.T) {
	row := chance.Row(1731)
	l := api.Log{Address: api.Address(row.Text(20)), Topics: []api.Hash{api.Hash(row.Text(32)), api.Hash(row.Text(32))}}
	logs := []api.Log{l}
	for i := range 160 {
		a := l.Address
		a[i/8] ^= 1 << (i % 8)
		if checkFind(t, logs, []api.Address{a}, nil) != 0 || checkFind(t, logs, []api.Address{a, l.Address}, nil) != 1 {
			t.Errorf("bit %d of the address", i)
		}
	}
	for i := range 256 {
		for place := range 2 {
			topics := [][]api.Hash{nil, nil}
			h := l.Topics[place]
			h[i/8] ^= 1 << (i % 8)
			topics[place] = []api.Hash{h}
			if checkFind(t, logs, nil, topics) != 0 {
				t.Errorf("bit %d of topic %d", i, place)
			}
			topics[place] = []api.Hash{h, l.Topics[place]}
			if checkFind(t, logs, nil, topics) != 1 {
				t.Errorf("topic %d behind another one", place)
			}
		}
	}
	if checkFind(t, logs, nil, [][]api.Hash{{l.Topics[1]}}) != 0 || checkFind(t, logs, nil, [][]api.Hash{nil, {l.Topics[0]}}) != 0 {
		t.Error("a topic is taken at another place")
	}
}

// P17.10: a log that is found by one address, or by one topic at its place, is never missed by the bloom; nor is it in a receipt's.
func TestFoundIsInBloom(t *testing.T) {
	row := chance.Row(1732)
	for range 300 {
		logs := anyLogs(&row, 1+row.Below(8))
		r, e := receipt.Make(row.Below(kinds), 1, 0, logs)
		if e != api.OK {
			t.Fatal(e)
		}
		for n, l := range logs {
			if found := receipt.Find(logs, []api.Address{l.Address}, nil); !slices.Contains(found, n) || !bloom.Has(r.Bloom, l.Address[:]) {
				t.Errorf("log %d is not found by its address, or missed by the bloom", n)
			}
			for i, topic := range l.Topics {
				topics := make([][]api.Hash, i+1)
				topics[i] = []api.Hash{topic}
				if found := receipt.Find(logs, nil, topics); !slices.Contains(found, n) || !bloom.Has(r.Bloom, topic[:]) {
					t.Errorf("log %d is not found by its topic %d, or missed by the bloom", n, i)
				}
				checkFind(t, logs, nil, topics)
			}
		}
	}
}

// usedUp tells receipts that have nothing but Used.
func usedUp(all ...uint64) []api.Receipt {
	var receipts []api.Receipt
	for _, used := range all {
		receipts = append(receipts, api.Receipt{Used: used})
	}
	return receipts
}

// checkGas holds Gas against its model (P17.11, P0.2) and tells its error.
func checkGas(t *testing.T, receipts []api.Receipt) api.Errno {
	t.Helper()
	want, wantE := modelGas(receipts)
	got, e := receipt.Gas(receipts)
	if !slices.Equal(got, want) || e != wantE {
		t.Errorf("Gas of %d receipts = %v, %d, want %v, %d", len(receipts), got, e, want, wantE)
	}
	return e
}

// P17.11: the chapter's fifth example, and the greatest numbers.
func TestExamplesOfGas(t *testing.T) {
	for _, c := range []struct {
		used, want []uint64
		e          api.Errno
	}{
		{[]uint64{21000, 21000, 50000}, []uint64{21000, 0, 29000}, api.OK}, {[]uint64{5, 4}, nil, api.ErrRcField}, {nil, nil, api.OK}, {[]uint64{0}, []uint64{0}, api.OK}, {[]uint64{7}, []uint64{7}, api.OK},
		{[]uint64{most}, []uint64{most}, api.OK}, {[]uint64{0, most, most}, []uint64{0, most, 0}, api.OK}, {[]uint64{most, 0}, nil, api.ErrRcField}, {[]uint64{most, most - 1}, nil, api.ErrRcField}, {[]uint64{1 << 63, 1<<63 - 1}, nil, api.ErrRcField}, {[]uint64{1<<63 - 1, 1 << 63}, []uint64{1<<63 - 1, 1}, api.OK},
		{[]uint64{1, 2, 3, 2}, nil, api.ErrRcField}, {[]uint64{3, 2, 3, 4}, nil, api.ErrRcField}, {[]uint64{1, 5, 3, 6}, nil, api.ErrRcField},
	} {
		if got, e := receipt.Gas(usedUp(c.used...)); !slices.Equal(got, c.want) || e != c.e {
			t.Errorf("Gas of %v = %v, %d, want %v, %d", c.used, got, e, c.want, c.e)
		}
		checkGas(t, usedUp(c.used...))
	}
	if got, e := receipt.Gas([]api.Receipt{}); len(got) != 0 || e != api.OK {
		t.Errorf("Gas of nothing = %v, %d", got, e)
	}
}

// P17.11: rising numbers with a step back somewhere; nothing else of the receipts counts.
func TestGas(t *testing.T) {
	row := chance.Row(1733)
	counts := map[api.Errno]int{}
	for range 2000 {
		var receipts []api.Receipt
		used := uint64(0)
		for range row.Below(30) {
			if more := used + row.Next()>>(8+row.Below(56)); more >= used {
				used = more
			}
			receipts = append(receipts, api.Receipt{Type: row.Below(99) - 9, Rooted: row.Below(2) == 0, Root: anyTopic(&row), Status: anySmall(&row), Used: used, Bloom: api.Bloom{byte(row.Next())}, Logs: anyLogs(&row, row.Below(2))})
		}
		if n := len(receipts); n > 1 && row.Below(2) == 0 {
			if at := 1 + row.Below(n-1); receipts[at-1].Used > 0 {
				receipts[at].Used = receipts[at-1].Used - 1
			}
		}
		counts[checkGas(t, receipts)]++
	}
	if counts[api.OK] < 500 || counts[api.ErrRcField] < 500 {
		t.Errorf("an answer hardly ever comes: %v", counts)
	}
	many := make([]api.Receipt, 70000) // more than a list may have elsewhere: here nothing is said of it
	for i := range many {
		many[i].Used = uint64(i)
	}
	if e := checkGas(t, many); e != api.OK {
		t.Errorf("Gas of very many: %d", e)
	}
}
