package wire_test

import (
	"slices"
	"testing"

	"waybill/api"
	"waybill/bloom"
	"waybill/chance"
	"waybill/receipt"
	"waybill/wire"
)

// checkFilter holds Filter against its model (P25.8, P0.2).
func checkFilter(t *testing.T, l []api.Receipt, addresses []api.Address, topics [][]api.Hash) ([]int, api.Errno) {
	t.Helper()
	want, wantE := modelFilter(l, addresses, topics)
	got, e := wire.Filter(l, addresses, topics)
	if !slices.Equal(got, want) || e != wantE {
		t.Errorf("Filter of %d receipts, %x, %x = %v, %d, want %v, %d", len(l), addresses, topics, got, e, want, wantE)
	}
	return got, e
}

func wantFilter(t *testing.T, why string, l []api.Receipt, addresses []api.Address, topics [][]api.Hash, want ...int) {
	t.Helper()
	if got, e := checkFilter(t, l, addresses, topics); !slices.Equal(got, want) || e != api.OK {
		t.Errorf("%s: Filter = %v, %d, want %v", why, got, e, want)
	}
}

func wantRefused(t *testing.T, why string, l []api.Receipt, addresses []api.Address, topics [][]api.Hash, want api.Errno) {
	t.Helper()
	if got, e := checkFilter(t, l, addresses, topics); got != nil || e != want {
		t.Errorf("%s: Filter = %v, %d, want %d", why, got, e, want)
	}
}

// paperOf tells a receipt of logs.
func paperOf(logs ...api.Log) api.Receipt { return withBloom(api.Receipt{Type: 2, Logs: logs}) }

// P25.8: the chapter's fourth example.
func TestExamplesOfFilter(t *testing.T) {
	a, x := api.Address{1}, api.Hash{2}
	bare := make([]api.Receipt, 3)
	for _, addresses := range [][]api.Address{nil, {}, {nobody}, {a}} {
		for _, topics := range [][][]api.Hash{nil, {}, {nil}, {{}}, {{noHash}}, {nil, nil, nil, nil}} {
			wantFilter(t, "receipts without logs", bare, addresses, topics)
			wantFilter(t, "no receipts", nil, addresses, topics)
		}
	}
	l := []api.Receipt{{}, paperOf(api.Log{}), {}, paperOf(api.Log{Address: a, Topics: []api.Hash{x}}), paperOf(api.Log{}, api.Log{}), paperOf(api.Log{}, api.Log{Topics: []api.Hash{x, x}})}
	wantFilter(t, "whatever it is", l, nil, nil, 1, 3, 4, 5)
	wantFilter(t, "one topic", l, nil, [][]api.Hash{{}}, 3, 5)
	wantFilter(t, "one topic", l, nil, [][]api.Hash{nil}, 3, 5)
}

// P25.8: one log must have all that is asked: its address, and at each place one of the topics.
func TestMatches(t *testing.T) {
	a, b, c := api.Address{1}, api.Address{2}, api.Address{3}
	x, y, z := api.Hash{1}, api.Hash{2}, api.Hash{3}
	l := []api.Receipt{
		paperOf(api.Log{Address: a, Topics: []api.Hash{x, y}}),
		paperOf(api.Log{Address: b, Topics: []api.Hash{x}}, api.Log{Address: a, Topics: []api.Hash{y, x, z, z}}),
		paperOf(api.Log{Address: b}),
		paperOf(api.Log{Address: b}, api.Log{Address: c, Topics: []api.Hash{x, y, z}}, api.Log{Address: c, Topics: []api.Hash{x, y, z}}),
	}
	for _, ask := range []struct {
		addresses []api.Address
		topics    [][]api.Hash
		want      []int
	}{
		{nil, nil, []int{0, 1, 2, 3}}, {[]api.Address{a}, nil, []int{0, 1}}, {[]api.Address{b}, nil, []int{1, 2, 3}}, {[]api.Address{a, b, a}, nil, []int{0, 1, 2, 3}}, {[]api.Address{c, {4}}, nil, []int{3}}, {[]api.Address{{4}}, nil, nil},
		{nil, [][]api.Hash{{x}}, []int{0, 1, 3}}, {[]api.Address{a}, [][]api.Hash{{x}}, []int{0}}, {nil, [][]api.Hash{{y}}, []int{1}}, {nil, [][]api.Hash{{y, x}}, []int{0, 1, 3}}, {nil, [][]api.Hash{{z}}, nil},
		{nil, [][]api.Hash{{x}, {x}}, nil}, {nil, [][]api.Hash{{x}, {y}}, []int{0, 3}}, {nil, [][]api.Hash{nil, {y}}, []int{0, 3}}, {nil, [][]api.Hash{{}, {x, y, z}}, []int{0, 1, 3}}, {nil, [][]api.Hash{{x, y}, {}}, []int{0, 1, 3}},
		{nil, [][]api.Hash{nil, nil, nil}, []int{1, 3}}, {nil, [][]api.Hash{nil, nil, nil, nil}, []int{1}}, {nil, [][]api.Hash{nil, nil, {z}}, []int{1, 3}}, {nil, [][]api.Hash{{x}, nil, {z}}, []int{3}}, {nil, [][]api.Hash{nil, nil, nil, {z, z}}, []int{1}}, {nil, [][]api.Hash{nil, nil, nil, {x}}, nil},
		{[]api.Address{b}, [][]api.Hash{nil, nil}, nil}, {[]api.Address{b}, [][]api.Hash{{x}}, []int{1}}, {[]api.Address{c}, [][]api.Hash{{x}, {y}, {z}}, []int{3}},
	} {
		wantFilter(t, "one log has it all", l, ask.addresses, ask.topics, ask.want...)
	}
}

// wanted tells lists of what is asked for, by chance, some of them empty.
func wanted[T any](row *chance.Row, one func(*chance.Row) T) []T {
	if row.Below(3) == 0 {
		return nil
	}
	return append(several(row, 2, one), one(row))
}

// P25.8, P0.14: receipts and questions by chance; what matches has its bits in the bloom.
func TestFilterByChance(t *testing.T) {
	row := chance.Row(2560)
	counts := map[int]int{}
	for n := range 3000 {
		l := several(&row, 8, func(row *chance.Row) api.Receipt { return anyReceipt(row, n%kinds) })
		addresses := wanted(&row, anyAddress)
		var topics [][]api.Hash
		for range row.Below(5) {
			topics = append(topics, wanted(&row, anyHash))
		}
		got, _ := checkFilter(t, l, addresses, topics)
		counts[len(got)]++
		for _, i := range got {
			if len(addresses) == 1 && !bloom.Has(l[i].Bloom, addresses[0][:]) {
				t.Errorf("the address %x matches, but the bloom has it not", addresses[0])
			}
		}
	}
	for n := range 5 {
		if counts[n] < 50 {
			t.Errorf("so many places: %v", counts)
		}
	}
}

// P25.8, P0.2: too many receipts, then the first wrong one, then too many lists of topics.
func TestFilterRefused(t *testing.T) {
	right := paperOf(api.Log{Topics: make([]api.Hash, 4)})
	five := make([][]api.Hash, 5)
	wantFilter(t, "four lists", []api.Receipt{right}, nil, five[:4], 0)
	for n := 5; n < 9; n++ {
		wantRefused(t, "too many lists", []api.Receipt{right}, nil, make([][]api.Hash, n), api.ErrArg)
		wantRefused(t, "too many lists, no receipts", nil, nil, make([][]api.Hash, n), api.ErrArg)
		wantRefused(t, "too many lists", nil, []api.Address{{}}, slices.Repeat([][]api.Hash{{{}}}, n), api.ErrArg)
	}
	wrongs := []api.Receipt{{Type: 5}, {Type: -1}, {Status: 2}, {Type: 1, Rooted: true}, {Logs: []api.Log{{Topics: make([]api.Hash, 5)}}}, {Bloom: api.Bloom{1}}, {Logs: []api.Log{{}}}}
	for _, r := range wrongs {
		want := receipt.Check(r)
		if want == api.OK {
			t.Errorf("%+v is not wrong", r)
		}
		for _, other := range append(wrongs, right) {
			for _, l := range [][]api.Receipt{{r}, {r, other}, {right, r, other}, {right, right, right, r, right, other}} {
				wantRefused(t, "a wrong one", l, nil, nil, want)
				wantRefused(t, "a wrong one and too many lists", l, nil, five, want)
				wantRefused(t, "a wrong one that no one asks for", l, []api.Address{{9}}, [][]api.Hash{{{9}}}, want)
			}
		}
		for _, n := range []int{maxList, maxList + 1, 2 * maxList} {
			wantRefused(t, "too many wrong ones", slices.Repeat([]api.Receipt{r}, n), nil, five, api.ErrBkCount)
		}
	}
	wantRefused(t, "too many", make([]api.Receipt, maxList), nil, nil, api.ErrBkCount)
}

// P25.8, P0.7: one fewer than MaxList is looked through; no length of a receipt is refused.
func TestFilterMany(t *testing.T) {
	l := make([]api.Receipt, maxList-1)
	own := api.Log{Address: api.Address{7}, Topics: []api.Hash{{8}}}
	for _, i := range []int{0, 40000, maxList - 2} {
		l[i] = paperOf(own)
	}
	wantFilter(t, "65535 receipts", l, []api.Address{{7}}, [][]api.Hash{{{8}}}, 0, 40000, maxList-2)
	wantFilter(t, "65535 receipts", l, []api.Address{{8}}, nil)
	long := paperOf(api.Log{Data: make([]byte, maxInput+1)}, own)
	if _, e := wire.EncodeReceipt(long); e != api.ErrLong {
		t.Errorf("the receipt is not too long: %d", e)
	}
	wantFilter(t, "a receipt that is too long to be written", []api.Receipt{{}, long}, []api.Address{{7}}, nil, 1)
	many := make([]api.Address, 100000)
	wantFilter(t, "many addresses", l[:1], append(many, api.Address{7}), [][]api.Hash{make([]api.Hash, 100000)})
	wantFilter(t, "many addresses", l[:1], append(many, api.Address{7}), [][]api.Hash{append(make([]api.Hash, 100000), api.Hash{8})}, 0)
}

// P25.7: of no receipt, and of receipts with one bit each, at each place.
func TestBloomBits(t *testing.T) {
	if b := wire.Bloom(); b != (api.Bloom{}) {
		t.Errorf("Bloom() = %x", b)
	}
	var so api.Bloom
	var l []api.Receipt
	for i := range 2048 {
		var one api.Bloom
		one[i/8] = 1 << (i % 8)
		so[i/8] |= one[i/8]
		l = append(l, api.Receipt{Bloom: one})
		if b := wire.Bloom(l[i]); b != one {
			t.Errorf("bit %d alone: %x", i, b)
		}
		if b := wire.Bloom(api.Receipt{}, l[i], l[0], l[i]); b != modelBloom([]api.Receipt{l[0], l[i]}) {
			t.Errorf("bit %d beside others: %x", i, b)
		}
		if i%64 == 0 || i == 2047 {
			if b := wire.Bloom(l...); b != so {
				t.Errorf("%d bits: %x, want %x", i+1, b, so)
			}
		}
	}
}

// P25.7: the Bloom fields alone count: not the logs, nor whether the receipts are right, nor how many they are.
func TestBloom(t *testing.T) {
	row := chance.Row(2561)
	for n := range 300 {
		l := several(&row, 6, func(row *chance.Row) api.Receipt { return anyReceipt(row, n%kinds) })
		if b := wire.Bloom(l...); b != modelBloom(l) {
			t.Errorf("Bloom of %d receipts = %x, want %x", len(l), b, modelBloom(l))
		}
		for i := range l {
			l[i].Bloom = api.Bloom(row.Text(256))
			l[i].Type, l[i].Status = row.Below(20)-9, row.Next()
		}
		if b := wire.Bloom(l...); b != modelBloom(l) {
			t.Errorf("Bloom of %d wrong receipts = %x, want %x", len(l), b, modelBloom(l))
		}
	}
	if b := wire.Bloom(api.Receipt{Logs: []api.Log{{Topics: make([]api.Hash, 9)}}}); b != (api.Bloom{}) {
		t.Errorf("logs without a bloom: %x", b)
	}
	many := make([]api.Receipt, maxList+5)
	many[maxList+4].Bloom[9] = 9
	if b := wire.Bloom(many...); b != many[maxList+4].Bloom {
		t.Errorf("many receipts: %x", b)
	}
}

// P25.7, P25.8, P0.14: what no bloom has, no receipt has.
func TestBloomTells(t *testing.T) {
	row := chance.Row(2562)
	for n := range 300 {
		l := several(&row, 5, func(row *chance.Row) api.Receipt { return anyReceipt(row, n%kinds) })
		whole := wire.Bloom(l...)
		a, h := anyAddress(&row), anyHash(&row)
		if got, _ := wire.Filter(l, []api.Address{a}, nil); len(got) > 0 && !bloom.Has(whole, a[:]) {
			t.Errorf("the address %x is there, but not in the bloom", a)
		}
		if got, _ := wire.Filter(l, nil, [][]api.Hash{{h}}); len(got) > 0 && !bloom.Has(whole, h[:]) {
			t.Errorf("the topic %x is there, but not in the bloom", h)
		}
	}
}
