package receipt_test

import (
	"bytes"
	"slices"
	"testing"

	"waybill/api"
	"waybill/receipt"
)

// stretched tells a receipt with so much data in its last log that its envelope has just so many bytes.
func stretched(t *testing.T, r api.Receipt, size int) api.Receipt {
	t.Helper()
	r.Logs = cloned(r.Logs)
	last := &r.Logs[len(r.Logs)-1]
	last.Data = make([]byte, 1<<20) // so the heads have their full lengths, or nearly
	for range 3 {
		last.Data = make([]byte, len(last.Data)+size-sealedSize(r.Type, modelTree(r)))
	}
	if got := sealedSize(r.Type, modelTree(r)); got != size {
		t.Fatalf("a receipt of %d bytes, not %d", got, size)
	}
	return r
}

// great tells receipts of a type: of one log, of many with topics, of many without.
func great(kind int) []api.Receipt {
	four := api.Log{Address: api.Address{1}, Topics: make([]api.Hash, 4), Data: make([]byte, 1000)}
	return []api.Receipt{
		withBloom(api.Receipt{Type: kind, Status: 1, Logs: make([]api.Log, 1)}),
		withBloom(api.Receipt{Type: kind, Used: most, Logs: slices.Repeat([]api.Log{four}, 10000)}),
		withBloom(api.Receipt{Type: kind, Used: 1, Logs: make([]api.Log, 60000)}),
	}
}

// P17.6 to P17.8, P0.7, P0.8: an envelope of just MaxInput bytes is written and read, one of one byte more is not: the type's byte counts.
func TestLongEnvelopes(t *testing.T) {
	for kind := range kinds {
		all := great(kind)
		if kind == 0 {
			all = append(all, api.Receipt{Rooted: true, Root: api.Hash{1}, Logs: all[0].Logs, Bloom: all[0].Bloom})
		}
		for i, r := range all {
			fits := stretched(t, r, maxInput)
			b, e := receipt.Encode(fits)
			if e != api.OK || len(b) != maxInput || !bytes.Equal(b, sealed(kind, modelTree(fits))) {
				t.Errorf("type %d, %d, of MaxInput bytes: Encode %d bytes, %d", kind, i, len(b), e)
			}
			if again, e := receipt.Decode(b); !sameReceipt(again, fits) || e != api.OK {
				t.Errorf("type %d, %d, of MaxInput bytes: Decode %d", kind, i, e)
			}
			long := stretched(t, r, maxInput+1)
			if b, e := receipt.Encode(long); b != nil || e != api.ErrLong || receipt.Check(long) != api.OK {
				t.Errorf("type %d, %d, of a byte more: Encode %d bytes, %d", kind, i, len(b), e)
			}
			if again, e := receipt.Decode(sealed(kind, modelTree(long))); !isNoReceipt(again) || e != api.ErrLong {
				t.Errorf("type %d, %d, of a byte more: Decode %d", kind, i, e)
			}
			long.Bloom[0] ^= 1
			if b, e := receipt.Encode(long); b != nil || e != api.ErrRcBloom {
				t.Errorf("type %d, %d, of a byte more, another bloom: Encode %d bytes, %d", kind, i, len(b), e)
			}
		}
	}
}

// P17.6 to P17.8, P0.7, P0.8: just MaxInput bytes, nearly all of them logs that are as short as can be: none may be reckoned longer than it is.
func TestPacked(t *testing.T) {
	const (
		ahead = 4 + 1 + 1 + 259 + 4 // bytes of the heads of both lists and of the first three fields
		spare = 1000                // left to the last log, at the least
	)
	for _, topics := range []int{0, 3, 4} {
		one := api.Log{Address: api.Address{1}, Topics: make([]api.Hash, topics), Data: []byte{5}}
		item := modelBytes(logTree(one))
		n := (maxInput - ahead - spare) / len(item)
		last := api.Log{Address: api.Address{2}}
		last.Data = make([]byte, maxInput-ahead-n*len(item)-3-21-1-3)
		r := api.Receipt{Status: 1, Logs: append(slices.Repeat([]api.Log{one}, n), last), Bloom: modelBloom([]api.Log{one, last})}
		rest := maxInput - ahead
		want := slices.Concat(modelHead(0xc0, maxInput-4), digits("01 80 b90100"), r.Bloom[:], modelHead(0xc0, rest), bytes.Repeat(item, n), modelBytes(logTree(last)))
		b, e := receipt.Encode(r)
		if !bytes.Equal(b, want) || len(want) != maxInput || e != api.OK {
			t.Errorf("%d logs of %d topics: Encode %d bytes, %d", n, topics, len(b), e)
		}
		if again, e := receipt.Decode(want); !sameReceipt(again, r) || e != api.OK {
			t.Errorf("%d logs of %d topics: Decode %d", n, topics, e)
		}
		r.Logs[n].Data = append(r.Logs[n].Data, 1)
		if b, e := receipt.Encode(r); b != nil || e != api.ErrLong {
			t.Errorf("%d logs of %d topics, and a byte more: Encode %d bytes, %d", n, topics, len(b), e)
		}
	}
}

// P17.4, P17.6, P0.1, P0.7: what is far too long to be written may be well-formed.
func TestFarTooLong(t *testing.T) {
	data := make([]byte, 1<<20)
	for i, logs := range [][]api.Log{
		{{Data: make([]byte, 1<<28)}}, {{Data: make([]byte, maxInput)}}, {{Data: make([]byte, maxInput+1)}}, {{}, {Data: make([]byte, maxInput-24)}},
		slices.Repeat([]api.Log{{Data: data}}, 1000), slices.Repeat([]api.Log{{Topics: make([]api.Hash, 4)}}, 120000), {{Data: data}, {Data: make([]byte, maxInput-1<<20)}},
	} {
		r := withBloom(api.Receipt{Type: i % kinds, Logs: logs})
		if e := receipt.Check(r); e != api.OK {
			t.Errorf("%d: Check %d", i, e)
		}
		if b, e := receipt.Encode(r); b != nil || e != api.ErrLong {
			t.Errorf("%d: Encode %d bytes, %d", i, len(b), e)
		}
	}
}

// P17.7, P0.7: more than MaxInput bytes are refused ahead of all that they say.
func TestDecodeLong(t *testing.T) {
	for _, n := range []int{maxInput + 1, maxInput + 2, 2 * maxInput} {
		for _, first := range []byte{0, 1, 4, 5, 0x7f, 0x80, 0xbf, 0xc0, 0xff} {
			data := make([]byte, n)
			data[0] = first
			wantError(t, data, api.ErrLong)
		}
	}
	for first, want := range map[byte]api.Errno{0: api.ErrRcType, 1: api.ErrRlpRest, 4: api.ErrRlpRest, 5: api.ErrRcType, 0x80: api.ErrRcType, 0xbf: api.ErrRcType, 0xc0: api.ErrRlpRest} {
		data := make([]byte, maxInput)
		data[0] = first
		wantError(t, data, want)
	}
}

// P17.7, P0.1: lists of very many items in each place, of which none is a log.
func TestDecodeMany(t *testing.T) {
	whole := modelTree(api.Receipt{})
	many := list(slices.Repeat([]api.Item{text()}, 1<<20)...)
	for i := range 4 {
		wantError(t, sealed(0, replaced(whole, i, many)), api.ErrRcField)
	}
	wantError(t, sealed(1, many), api.ErrRcFields)
	topics := list(slices.Repeat([]api.Item{filled(0, 32)}, 1<<18)...)
	wantError(t, sealed(0, replaced(whole, 3, list(list(filled(0, 20), topics, text())))), api.ErrRcTopics)
}
