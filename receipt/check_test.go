package receipt_test

import (
	"bytes"
	"slices"
	"testing"

	"waybill/api"
	"waybill/chance"
	"waybill/receipt"
)

// checkAll holds Check and Encode of one receipt against their models (P17.4, P17.6, P0.2), Decode of the answer against it (P17.8, P0.8), and tells Check's error.
func checkAll(t *testing.T, r api.Receipt) api.Errno {
	t.Helper()
	e := receipt.Check(r)
	if want := modelCheck(r); e != want {
		t.Errorf("Check(%+v) = %d, want %d", r, e, want)
	}
	want, wantE := modelEncode(r)
	b, f := receipt.Encode(r)
	if !bytes.Equal(b, want) || f != wantE {
		t.Errorf("Encode(%+v) = %x, %d, want %x, %d", r, short(b), f, short(want), wantE)
	}
	if f != api.OK {
		return e
	}
	if again, e := receipt.Decode(b); !sameReceipt(again, r) || e != api.OK {
		t.Errorf("Decode(Encode(%+v)) = %+v, %d", r, again, e)
	}
	return e
}

// wantCheck wants just that error of Check, and the same of Encode.
func wantCheck(t *testing.T, what string, r api.Receipt, want api.Errno) {
	t.Helper()
	if e := checkAll(t, r); e != want {
		t.Errorf("%s: Check(%+v) = %d, want %d", what, r, e, want)
	}
	if b, e := receipt.Encode(r); e != want || (len(b) > 0) != (want == api.OK) {
		t.Errorf("%s: Encode(%+v) = %x, %d, want %d", what, r, short(b), e, want)
	}
}

// checkMake holds Make against its model (P17.5, P0.2) and tells its error.
func checkMake(t *testing.T, kind int, status, used uint64, logs []api.Log) api.Errno {
	t.Helper()
	want, wantE := modelMake(kind, status, used, logs)
	r, e := receipt.Make(kind, status, used, logs)
	if !sameReceipt(r, want) || e != wantE {
		t.Errorf("Make(%d, %d, %d, %v) = %+v, %d, want %+v, %d", kind, status, used, logs, r, e, want, wantE)
	}
	if e != api.OK {
		return e
	}
	wantCheck(t, "what is made", r, api.OK)
	return e
}

// notTypes are no types, though some of them end with the byte of one.
func notTypes() []int {
	return []int{-1 << 63, -1<<63 + 1, -256, -255, -5, -4, -3, -2, -1, 5, 6, 7, 127, 128, 192, 255, 256, 257, 260, 1 << 16, 1 << 32, 1<<32 + 1, 1<<63 - 1}
}

// P17.4, P17.5: types that are none, whatever else there is.
func TestTypes(t *testing.T) {
	row := chance.Row(1710)
	for _, kind := range notTypes() {
		for from := range kinds {
			r := anyReceipt(&row, from)
			r.Type = kind
			wantCheck(t, "no type", r, api.ErrRcType)
			r.Rooted, r.Status, r.Bloom[7] = true, 2, ^r.Bloom[7]
			r.Logs = append(r.Logs, api.Log{Topics: make([]api.Hash, 5)})
			wantCheck(t, "no type", r, api.ErrRcType)
			for _, status := range []uint64{0, 1, 2} {
				if e := checkMake(t, kind, status, r.Used, r.Logs); e != api.ErrRcType {
					t.Errorf("Make(%d, %d, ..): %d", kind, status, e)
				}
			}
		}
	}
	for kind := range kinds {
		wantCheck(t, "nothing but a type", api.Receipt{Type: kind}, api.OK)
	}
}

// P17.4: a root and a status, in all types: which of them may stand together.
func TestOutcomes(t *testing.T) {
	row := chance.Row(1711)
	statuses := []uint64{0, 1, 2, 3, 255, 256, 257, 1 << 32, 1<<32 + 1, 1 << 63, most}
	roots := []api.Hash{{}, {31: 1}, {1}, {15: 0x80}, api.Hash(row.Text(32))}
	good := 0
	for kind := range kinds {
		for _, status := range statuses {
			for _, root := range roots {
				for _, rooted := range []bool{false, true} {
					want := api.ErrRcField
					if rooted && kind == 0 && status == 0 || !rooted && root == (api.Hash{}) && status <= 1 {
						want = api.OK
						good++
					}
					wantCheck(t, "root and status", api.Receipt{Type: kind, Rooted: rooted, Root: root, Status: status, Used: anySmall(&row)}, want)
				}
			}
		}
	}
	if good != 5*2+5 {
		t.Errorf("%d receipts are taken", good)
	}
	for i := range 256 {
		var root api.Hash
		root[i/8] = 1 << (i % 8)
		wantCheck(t, "a bit of the root", api.Receipt{Rooted: true, Root: root}, api.OK)
		wantCheck(t, "a bit of the root", api.Receipt{Root: root}, api.ErrRcField)
	}
	for i := range 64 {
		wantCheck(t, "a bit of Used", api.Receipt{Used: 1 << i}, api.OK)
		want := api.ErrRcField
		if i == 0 {
			want = api.OK
		}
		wantCheck(t, "a bit of Status", api.Receipt{Status: 1 << i}, want)
		wantCheck(t, "a bit of Status beside a root", api.Receipt{Rooted: true, Status: 1 << i}, api.ErrRcField)
	}
}

// P17.4, P17.5: the topics of each log are counted.
func TestTopics(t *testing.T) {
	row := chance.Row(1712)
	for topics := range 8 {
		want := api.OK
		if topics > 4 {
			want = api.ErrRcTopics
		}
		for n := 1; n < 5; n++ {
			for at := range n {
				r := anyReceipt(&row, row.Below(kinds))
				r.Logs = anyLogs(&row, n)
				r.Logs[at].Topics = make([]api.Hash, topics)
				wantCheck(t, "so many topics", withBloom(r), want)
				if e := checkMake(t, r.Type, 1, r.Used, r.Logs); e != want {
					t.Errorf("Make with %d topics: %d", topics, e)
				}
			}
		}
	}
	four := slices.Repeat([]api.Log{{Topics: make([]api.Hash, 4)}}, 50) // many in all, no log too many
	wantCheck(t, "four topics each", withBloom(api.Receipt{Logs: four}), api.OK)
}

// P17.4, P0.14: each bit of the bloom counts: none may lack, none may be too many.
func TestBlooms(t *testing.T) {
	row := chance.Row(1713)
	logs := anyLogs(&row, 3)
	for _, r := range []api.Receipt{{}, {Type: 4, Status: 1}, withBloom(api.Receipt{Logs: logs}), withBloom(api.Receipt{Rooted: true, Logs: logs[:1]})} {
		wantCheck(t, "the bloom", r, api.OK)
		for i := range 2048 {
			r.Bloom[i/8] ^= 1 << (i % 8)
			if e := receipt.Check(r); e != api.ErrRcBloom {
				t.Errorf("another bit %d: %d", i, e)
			}
			if b, e := receipt.Encode(r); b != nil || e != api.ErrRcBloom {
				t.Errorf("another bit %d: %x, %d", i, b, e)
			}
			r.Bloom[i/8] ^= 1 << (i % 8)
		}
	}
	whole := withBloom(api.Receipt{Logs: logs})
	for i := range logs {
		r := whole
		r.Logs = slices.Delete(cloned(logs), i, i+1)
		checkAll(t, r)
		r.Logs = append(cloned(logs), api.Log{Address: api.Address(row.Text(20))})
		wantCheck(t, "a log more than the bloom has", r, api.ErrRcBloom)
		r.Logs = cloned(logs)
		r.Logs[i].Topics = append(r.Logs[i].Topics[:min(3, len(r.Logs[i].Topics))], api.Hash(row.Text(32)))
		wantCheck(t, "a topic more than the bloom has", r, api.ErrRcBloom)
		r.Logs = cloned(logs)
		r.Logs[i].Data = append(r.Logs[i].Data, 1)
		wantCheck(t, "a byte more of data", r, api.OK)
	}
}

type fault struct {
	e   api.Errno
	put func(*api.Receipt)
}

// faults tells what may be wrong with a receipt whose first log has a topic, in the order in which it is looked for; each may be put beside the others.
func faults() []fault {
	return []fault{
		{api.ErrRcType, func(r *api.Receipt) { r.Type = 5 }},
		{api.ErrRcField, func(r *api.Receipt) { r.Status = 2 }},
		{api.ErrRcField, func(r *api.Receipt) { r.Rooted, r.Status = true, max(r.Status, 1) }},
		{api.ErrRcTopics, func(r *api.Receipt) { r.Logs[0].Topics = slices.Repeat(r.Logs[0].Topics[:1], 5) }}, // the bloom is still theirs
		{api.ErrRcBloom, func(r *api.Receipt) { r.Bloom[99] ^= 8 }},
		{api.ErrLong, func(r *api.Receipt) { r.Logs[0].Data = make([]byte, maxInput) }},
	}
}

// P17.4, P17.6, P0.1: of several faults the one that is named first is told.
func TestFirstFault(t *testing.T) {
	row := chance.Row(1714)
	all := faults()
	for kind := range kinds {
		for set := range 1 << len(all) {
			logs := append([]api.Log{{Topics: []api.Hash{anyTopic(&row)}}}, anyLogs(&row, 2)...)
			r := withBloom(api.Receipt{Type: kind, Status: 1, Used: anySmall(&row), Logs: logs})
			want := api.OK
			for i, one := range slices.Backward(all) {
				if set>>i&1 == 1 {
					one.put(&r)
					want = one.e
				}
			}
			check := want
			if want == api.ErrLong {
				check = api.OK
			}
			if e := receipt.Check(r); e != check {
				t.Errorf("type %d, the faults %b: Check %d, want %d", kind, set, e, check)
			}
			if b, e := receipt.Encode(r); e != want || (len(b) > 0) != (want == api.OK) {
				t.Errorf("type %d, the faults %b: Encode %d bytes, %d, want %d", kind, set, len(b), e, want)
			}
		}
	}
}

// P17.5: the chapter's first example, as far as it is of Make.
func TestExamplesOfMake(t *testing.T) {
	r, e := receipt.Make(0, 1, 21000, nil)
	if !sameReceipt(r, api.Receipt{Status: 1, Used: 21000}) || e != api.OK {
		t.Errorf("Make(0, 1, 21000, nothing) = %+v, %d", r, e)
	}
	for _, c := range []struct {
		kind   int
		status uint64
		want   api.Errno
	}{{5, 0, api.ErrRcType}, {5, 2, api.ErrRcType}, {-1, 1, api.ErrRcType}, {0, 2, api.ErrRcField}, {4, 2, api.ErrRcField}} {
		if r, e := receipt.Make(c.kind, c.status, 21000, nil); !isNoReceipt(r) || e != c.want {
			t.Errorf("Make(%d, %d, ..) = %+v, %d, want %d", c.kind, c.status, r, e, c.want)
		}
	}
}

// P17.5: all types and statuses, with logs by chance; what is wrong of the logs comes last.
func TestMake(t *testing.T) {
	row := chance.Row(1715)
	for kind := range kinds {
		for _, status := range []uint64{0, 1, 2, 3, 256, 257, 1 << 32, 1<<32 + 1, most} {
			want := api.OK
			if status > 1 {
				want = api.ErrRcField
			}
			for n := range 6 {
				logs := anyLogs(&row, n)
				if e := checkMake(t, kind, status, anySmall(&row), logs); e != want {
					t.Errorf("Make(%d, %d, ..): %d", kind, status, e)
				}
				logs = append(logs, api.Log{Topics: make([]api.Hash, 5)}, anyLog(&row))
				both := want
				if want == api.OK {
					both = api.ErrRcTopics
				}
				if e := checkMake(t, kind, status, anySmall(&row), logs); e != both {
					t.Errorf("Make(%d, %d, ..) with too many topics: %d", kind, status, e)
				}
			}
		}
	}
	for _, used := range []uint64{0, 1, 1 << 63, most} {
		checkMake(t, 2, 1, used, nil)
	}
	long := []api.Log{{Data: make([]byte, maxInput+1)}} // no length is refused here
	if r, e := receipt.Make(0, 0, 0, long); !sameLogs(r.Logs, long) || r.Bloom != modelBloom(long) || e != api.OK {
		t.Errorf("Make of a log of more than MaxInput bytes: %d", e)
	}
}

// P17.4, P17.6: receipts that are changed by chance.
func TestChecksByChance(t *testing.T) {
	row := chance.Row(1716)
	counts := map[api.Errno]int{}
	for range 10000 {
		r := anyReceipt(&row, row.Below(kinds))
		for range row.Below(3) {
			switch row.Below(7) {
			case 0:
				r.Type = row.Below(8) - 1
			case 1:
				r.Status = uint64(row.Below(4))
			case 2:
				r.Rooted = !r.Rooted
			case 3:
				r.Root = anyTopic(&row)
			case 4:
				r.Logs = append(r.Logs, api.Log{Address: anyAddress(&row), Topics: make([]api.Hash, row.Below(7))})
			case 5:
				r.Bloom[row.Below(256)] ^= 1 << row.Below(8)
			case 6:
				r = withBloom(r)
			}
		}
		counts[checkAll(t, r)]++
	}
	for _, e := range []api.Errno{api.OK, api.ErrRcType, api.ErrRcField, api.ErrRcTopics, api.ErrRcBloom} {
		if counts[e] < 200 {
			t.Errorf("the answer %d hardly ever comes: %v", e, counts)
		}
	}
}
