package header_test

import (
	"slices"
	"testing"

	"waybill/api"
	"waybill/chance"
	"waybill/header"
)

// checkNext holds Next against its model (P19.7, P0.2), what it makes against P19.8, and tells its error.
func checkNext(t *testing.T, parent api.Header, time uint64, tail int) api.Errno {
	t.Helper()
	want, wantE := modelNext(parent, time, tail)
	h, e := header.Next(parent, time, tail)
	if e != wantE || !sameHeader(h, want) {
		t.Errorf("Next(%+v, %d, %d) = %+v, %d, want %+v, %d", parent, time, tail, h, e, want, wantE)
	}
	if e == api.OK && (header.Child(parent, h) != api.OK || header.Check(h) != api.OK) {
		t.Errorf("Next(%+v, %d, %d) is no child: %d, %d", parent, time, tail, header.Child(parent, h), header.Check(h))
	}
	return e
}

func wantNext(t *testing.T, why string, parent api.Header, time uint64, tail int, want api.Errno) {
	t.Helper()
	if e := checkNext(t, parent, time, tail); e != want {
		t.Errorf("%s (tails %d, %d): %d, want %d", why, parent.Tail, tail, e, want)
	}
}

// P19.7: the chapter's fourth example.
func TestExamplesOfNext(t *testing.T) {
	old := api.Header{Limit: 15000000}
	if h, e := header.Next(old, 1, 1); h.Limit != 30000000 || h.BaseFee != (api.U256{1000000000}) || e != api.OK {
		t.Errorf("the first with a base fee: %+v, %d", h, e)
	}
	full := api.Header{Tail: 1, BaseFee: api.U256{1000}, Limit: 30000000, Used: 30000000, Time: 50}
	if h, e := header.Next(full, 51, 1); h.BaseFee != (api.U256{1125}) || h.Limit != 30000000 || e != api.OK {
		t.Errorf("behind a full one: %+v, %d", h, e)
	}
	wantNext(t, "the parent's Time", full, 50, 1, api.ErrHdTime)
	wantNext(t, "a Limit of 1000", api.Header{Limit: 1000}, 1, 0, api.ErrHdGas)
	wantNext(t, "a tail below", full, 51, 0, api.ErrHdParent)
}

// P19.7: what the header has, field by field, with each tail behind each.
func TestNextFields(t *testing.T) {
	row := chance.Row(1940)
	eachTails(func(from, tail int) {
		parent := anyParent(&row, from)
		h, e := header.Next(parent, parent.Time+12, tail)
		name, _ := header.Hash(parent)
		limit, base, excess, difficulty := parent.Limit, zero, uint64(0), parent.Difficulty
		if from == 0 && tail > 0 {
			limit *= 2
		}
		if tail >= 1 {
			base, _ = modelBase(parent)
		}
		if tail >= 3 {
			excess, _ = modelExcess(parent, tail)
		}
		var draws, requests api.Hash
		if tail >= 2 {
			draws, difficulty = noEntries, zero
		}
		if tail == 4 {
			requests = noRequests
		}
		want := api.Header{Parent: name, Uncles: noUncles, State: parent.State, TxRoot: noEntries, ReceiptRoot: noEntries, Difficulty: difficulty, Number: parent.Number + 1, Limit: limit, Time: parent.Time + 12, Tail: tail, BaseFee: base, Withdrawals: draws, BlobExcess: excess, Requests: requests}
		if e != api.OK || !sameHeader(h, want) {
			t.Errorf("tails %d, %d: %+v, %d, want %+v", from, tail, h, e, want)
		}
		wantNext(t, "by chance", parent, parent.Time+12, tail, api.OK)
	})
}

// P19.7: the edges of each error: tails, numbers, times, limits, prices.
func TestNextEdges(t *testing.T) {
	for from := range tails {
		parent := plain(from)
		for _, tail := range []int{-1 << 63, -2, -1, 5, 6, 1<<63 - 1} {
			wantNext(t, "no tail", parent, 1001, tail, api.ErrHdField)
		}
		for tail := range tails {
			want := api.OK
			if tail < from {
				want = api.ErrHdParent
			}
			wantNext(t, "a tail", parent, 1001, tail, want)
			wantNext(t, "a tail, the last number but one", turned(parent, func(h *api.Header) { h.Number = most - 1 }), 1001, tail, want)
			wantNext(t, "a tail, the last number", turned(parent, func(h *api.Header) { h.Number = most }), 1001, tail, api.ErrHdParent)
		}
	}
	eachTails(func(from, tail int) {
		parent := plain(from)
		for _, c := range []struct {
			ahead, time uint64
			want        api.Errno
		}{{0, 0, api.ErrHdTime}, {0, 1, api.OK}, {1000, 999, api.ErrHdTime}, {1000, 1000, api.ErrHdTime}, {1000, 1001, api.OK}, {1000, most, api.OK}, {most - 1, most, api.OK}, {most, most, api.ErrHdTime}, {most, 0, api.ErrHdTime}, {1 << 63, 1<<63 - 1, api.ErrHdTime}} {
			wantNext(t, "a time", turned(parent, func(h *api.Header) { h.Time = c.ahead }), c.time, tail, c.want)
		}
		for _, limit := range []uint64{0, 1, 2, 1000, 1023, 1024, 2499, 2500, 2501, 4996, 4997, 4999, 5000, 5001, 1<<63 - 1, 1 << 63, most - 1, most} {
			want, doubled := api.OK, from == 0 && tail > 0
			if limit < 5000 && !doubled || limit < 2500 || limit >= 1<<63 && doubled {
				want = api.ErrHdGas
			}
			wantNext(t, "a limit", turned(parent, func(h *api.Header) { h.Limit, h.Used = limit, 0 }), 1001, tail, want)
		}
	})
}

// P19.7: a base fee or an excess that does not follow; what a parent without either used is not asked.
func TestNextPrices(t *testing.T) {
	eachTails(func(from, tail int) {
		parent := plain(from)
		want := api.OK
		if from >= 1 {
			want = api.ErrHdBase
		}
		wantNext(t, "Used above Limit", turned(parent, func(h *api.Header) { h.Used = h.Limit + 1 }), 1001, tail, want)
		wantNext(t, "Used far above Limit", turned(parent, func(h *api.Header) { h.Used = most }), 1001, tail, want)
		wantNext(t, "Used up to Limit", turned(parent, func(h *api.Header) { h.Used = h.Limit }), 1001, tail, api.OK)
		if from >= 1 {
			wantNext(t, "the greatest BaseFee, full", turned(parent, func(h *api.Header) { h.BaseFee, h.Used = top, h.Limit }), 1001, tail, api.ErrHdBase)
			wantNext(t, "the greatest BaseFee, half full", turned(parent, func(h *api.Header) { h.BaseFee, h.Used = top, h.Limit/2 }), 1001, tail, api.OK)
			wantNext(t, "the greatest BaseFee, empty", turned(parent, func(h *api.Header) { h.BaseFee, h.Used = top, 0 }), 1001, tail, api.OK)
		}
		if from < 3 {
			return
		}
		target := map[int]uint64{3: 3 * blob, 4: 6 * blob}[tail]
		for _, c := range []struct {
			excess, used uint64
			want         api.Errno
		}{{most, target, api.OK}, {most, target + 1, api.ErrHdBlob}, {most, most, api.ErrHdBlob}, {target, most, api.OK}, {target + 1, most, api.ErrHdBlob}, {0, most, api.OK}, {0, 0, api.OK}, {0, target, api.OK}, {1, target, api.OK}, {0, 1, api.OK}} {
			wantNext(t, "blob gas", turned(parent, func(h *api.Header) { h.BlobExcess, h.BlobUsed = c.excess, c.used }), 1001, tail, c.want)
		}
	})
}

// call is what Next is handed, and mistake one way in which it finds something wrong.

type call struct {
	parent api.Header
	time   uint64
	tail   int
}

type mistake struct {
	e   api.Errno
	put func(*call)
}

// mistakes are those of each of P19.7's steps for two tails, in its order.
func mistakes(from, tail int) [][]mistake {
	all := [][]mistake{
		{
			{api.ErrHdExtra, func(c *call) { c.parent.Extra = make([]byte, 33) }},
			{api.ErrHdField, func(c *call) { c.parent.Tail = 5 }},
			{api.ErrHdField, func(c *call) { c.parent.Tail, c.parent.Extra = -1, make([]byte, 33) }},
		},
		{{api.ErrHdField, func(c *call) { c.tail = 5 }}, {api.ErrHdField, func(c *call) { c.tail = -1 }}},
		{{api.ErrHdParent, func(c *call) { c.parent.Number = most }}},
		{{api.ErrHdTime, func(c *call) { c.time = c.parent.Time }}, {api.ErrHdTime, func(c *call) { c.time = 0 }}},
		{{api.ErrHdGas, func(c *call) { c.parent.Limit = 2499 }}, {api.ErrHdGas, func(c *call) { c.parent.Limit = 0 }}},
	}
	if from == 0 && tail > 0 {
		all[4] = append(all[4], mistake{api.ErrHdGas, func(c *call) { c.parent.Limit = 1<<63 + 1<<40 }})
	}
	if from > 0 {
		all[2] = append(all[2], mistake{api.ErrHdParent, func(c *call) { c.tail = from - 1 }}, mistake{api.ErrHdParent, func(c *call) { c.tail = 0 }})
		all = append(all, []mistake{
			{api.ErrHdBase, func(c *call) { c.parent.Used = most }},
			{api.ErrHdBase, func(c *call) { c.parent.BaseFee, c.parent.Used = top, c.parent.Limit }},
		})
	}
	if from >= 3 {
		all = append(all, []mistake{{api.ErrHdBlob, func(c *call) { c.parent.BlobExcess, c.parent.BlobUsed = most, 10*blob }}})
	}
	return all
}

// P19.7: all sets of steps that find something wrong: the first one's error is told.
func TestOrderOfNext(t *testing.T) {
	row := chance.Row(1941)
	eachTails(func(from, tail int) {
		all := mistakes(from, tail)
		for set := range 1 << len(all) {
			for range 12 {
				c := call{parent: anyParent(&row, from), tail: tail}
				c.parent.Limit, c.time = 1<<40-1, c.parent.Time+1
				c.parent.Used = min(c.parent.Used, c.parent.Limit)
				want := api.OK
				for i, ways := range slices.Backward(all) {
					if set>>i&1 == 1 {
						way := ways[row.Below(len(ways))]
						way.put(&c)
						want = way.e
					}
				}
				wantNext(t, "several things wrong", c.parent, c.time, c.tail, want)
			}
		}
	})
}

// P19.7, P19.8: any headers and times; what is made is a child, and may be followed again.
func TestNextByChance(t *testing.T) {
	row := chance.Row(1942)
	counts := map[api.Errno]int{}
	for range 20000 {
		parent := anyHeader(&row, row.Below(tails))
		if row.Below(2) == 0 {
			parent = anyParent(&row, parent.Tail)
		}
		counts[checkNext(t, parent, parent.Time+uint64(row.Below(3)), row.Below(7)-1)]++
		h, e := header.Next(parent, parent.Time+1, parent.Tail)
		if e == api.OK && h.Time < most && h.Number < most {
			counts[checkNext(t, h, h.Time+1, row.Below(tails))]++
		}
	}
	for _, e := range []api.Errno{api.OK, api.ErrHdField, api.ErrHdParent, api.ErrHdTime, api.ErrHdGas, api.ErrHdBase} {
		if counts[e] < 50 {
			t.Errorf("the answer %d hardly ever comes: %v", e, counts)
		}
	}
}
