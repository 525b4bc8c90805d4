package receipt_test

import (
	"bytes"
	"slices"
	"testing"

	"waybill/api"
	"waybill/chance"
	"waybill/receipt"
	"waybill/rlp"
)

// checkDecode holds Decode against its model (P17.7, P0.2), what it answers against P17.8 and P0.9, and tells the error.
func checkDecode(t *testing.T, data []byte) api.Errno {
	t.Helper()
	want, wantE := modelDecode(data)
	r, e := receipt.Decode(data)
	if e != wantE || !sameReceipt(r, want) {
		t.Errorf("Decode(%x) = %+v, %d, want %+v, %d", short(data), r, e, want, wantE)
	}
	if e != api.OK {
		return e
	}
	if e := receipt.Check(r); e != api.OK {
		t.Errorf("Check of Decode(%x): %d", short(data), e)
	}
	if b, e := receipt.Encode(r); !bytes.Equal(b, data) || e != api.OK {
		t.Errorf("Encode of Decode(%x): %x, %d", short(data), short(b), e)
	}
	return e
}

// wantError wants just that error of Decode, and nothing beside it.
func wantError(t *testing.T, data []byte, want api.Errno) {
	t.Helper()
	if r, e := receipt.Decode(data); e != want || e != api.OK && !isNoReceipt(r) {
		t.Errorf("Decode(%x) = %+v, %d, want %d", short(data), r, e, want)
	}
	checkDecode(t, data)
}

// P17.6, P17.7: the chapter's first three examples; the document's ninth one.
func TestExamplesOfBytes(t *testing.T) {
	zeros := make([]byte, 256)
	first := slices.Concat(digits("f90108 01 825208 b90100"), zeros, digits("c0"))
	r, e := receipt.Make(0, 1, 21000, nil)
	if b, f := receipt.Encode(r); !bytes.Equal(b, first) || len(b) != 267 || e != api.OK || f != api.OK {
		t.Errorf("the first example: %x, %d, %d", b, e, f)
	}
	if again, e := receipt.Decode(first); !sameReceipt(again, r) || e != api.OK {
		t.Errorf("the first example: %+v, %d", again, e)
	}
	log := api.Log{Address: api.Address{19: 1}, Topics: []api.Hash{{31: 2}}, Data: []byte("hi")}
	r, e = receipt.Make(2, 0, 30000, []api.Log{log})
	second := slices.Concat(digits("02 f90145 80 827530 b90100"), r.Bloom[:], digits("f83c f83a 94"), log.Address[:], digits("e1a0"), log.Topics[0][:], digits("826869"))
	if b, f := receipt.Encode(r); !bytes.Equal(b, second) || len(b) != 329 || e != api.OK || f != api.OK {
		t.Errorf("the second example: %x, %d, %d", b, e, f)
	}
	if again, e := receipt.Decode(second); !sameReceipt(again, r) || e != api.OK {
		t.Errorf("the second example: %+v, %d", again, e)
	}
	for data, want := range map[string]api.Errno{"": api.ErrRlpEnd, "00": api.ErrRcType, "05 c0": api.ErrRcType, "80": api.ErrRcType, "c0": api.ErrRcFields, "01 80": api.ErrRcFields, "01": api.ErrRlpEnd} {
		wantError(t, digits(data), want)
	}
	for status, want := range map[byte]api.Errno{0: api.ErrRcField, 1: api.OK, 2: api.ErrRcField, 0x7f: api.ErrRcField, 0x80: api.OK} {
		data := slices.Clone(first)
		data[3] = status
		wantError(t, data, want)
	}
	for i := range 256 {
		data := slices.Clone(first)
		data[10+i] ^= byte(1 + i%255)
		wantError(t, data, api.ErrRcBloom)
	}
	wantError(t, append(slices.Clone(first), 0), api.ErrRlpRest)
}

// P17.6, P17.7, P17.11: the four receipts of a test of go-ethereum, as they stand in a list of a message. The bytes were written down from memory; the lengths ahead of them would show a slip.
func TestKnown(t *testing.T) {
	zeros := make([]byte, 256)
	message := digits("f9043e")
	for _, head := range []string{"b9010c 01f90108018262d4b90100", "b9010c 01f901080182cd14b90100", "b9010d 01f901090183013754b90100", "b9010d 01f90109018301a194b90100"} {
		message = slices.Concat(message, digits(head), zeros, digits("c0"))
	}
	whole, e := rlp.Decode(message)
	if e != api.OK || len(whole.Items) != 4 {
		t.Fatalf("the message: %d items, %d", len(whole.Items), e)
	}
	var all []api.Receipt
	for i, used := range []uint64{25300, 52500, 79700, 106900} {
		r, e := receipt.Decode(whole.Items[i].Data)
		if !sameReceipt(r, api.Receipt{Type: 1, Status: 1, Used: used}) || e != api.OK {
			t.Errorf("receipt %d: %+v, %d", i, r, e)
		}
		if b, e := receipt.Encode(r); !bytes.Equal(b, whole.Items[i].Data) || e != api.OK {
			t.Errorf("receipt %d: %x, %d", i, b, e)
		}
		all = append(all, r)
	}
	if gas, e := receipt.Gas(all); !slices.Equal(gas, []uint64{25300, 27200, 27200, 27200}) || e != api.OK {
		t.Errorf("Gas = %v, %d", gas, e)
	}
}

// P17.6: the numbers that change the length of Used, each status, each type, with a root and without.
func TestEncode(t *testing.T) {
	for kind := range kinds {
		for shift := range 65 {
			for _, used := range []uint64{1<<shift - 1, 1 << shift, 1<<shift + 1} {
				for status := range uint64(2) {
					wantCheck(t, "Used", api.Receipt{Type: kind, Status: status, Used: used}, api.OK)
				}
				wantCheck(t, "Used beside a root", api.Receipt{Rooted: true, Root: api.Hash{31: byte(shift)}, Used: used}, api.OK)
			}
		}
	}
	for root, want := range map[api.Hash]string{{}: "f90126 a0 0000000000000000000000000000000000000000000000000000000000000000 80 b90100", {0: 1, 31: 2}: "f90126 a0 0100000000000000000000000000000000000000000000000000000000000002 80 b90100"} {
		b, e := receipt.Encode(api.Receipt{Rooted: true, Root: root})
		if !bytes.Equal(b, slices.Concat(digits(want), make([]byte, 256), digits("c0"))) || e != api.OK {
			t.Errorf("a receipt with the root %x: %x, %d", root, b, e)
		}
	}
}

// P17.8, P0.8, P0.9: receipts by chance, there and back, and no two texts of one receipt.
func TestThereAndBack(t *testing.T) {
	row := chance.Row(1720)
	seen := map[string]bool{}
	for n := range 3000 {
		r := anyReceipt(&row, n%kinds)
		wantCheck(t, "by chance", r, api.OK)
		data := sealed(r.Type, modelTree(r))
		seen[string(data)] = true
		wantError(t, data, api.OK)
	}
	if len(seen) < 2500 {
		t.Errorf("only %d texts", len(seen))
	}
	for _, n := range []int{0, 1, 2, 9, 10, 11, 100, 1000, 3000} { // around the lengths at which heads change
		for kind := range kinds {
			wantCheck(t, "so many logs", withBloom(api.Receipt{Type: kind, Logs: anyLogs(&row, n)}), api.OK)
			wantCheck(t, "so many logs of zeros", withBloom(api.Receipt{Type: kind, Logs: make([]api.Log, n)}), api.OK)
		}
	}
}

// P17.7, P0.9: the same receipt in other forms, which rlp refuses: what it finds wrong is told, wherever it stands, ahead of all that is wrong with the fields.
func TestOtherForms(t *testing.T) {
	zeros, log := make([]byte, 256), slices.Concat(digits("d7 94"), make([]byte, 20), digits("c0 80"))
	filter := modelBloom([]api.Log{{}})
	for _, c := range []struct {
		parts [][]byte
		want  api.Errno
	}{
		{[][]byte{digits("f90106 01 80 b90100"), zeros, digits("c0")}, api.OK},
		{[][]byte{digits("f90107 8101 80 b90100"), zeros, digits("c0")}, api.ErrRlpByte},
		{[][]byte{digits("f90107 8100 80 b90100"), zeros, digits("c0")}, api.ErrRlpByte},
		{[][]byte{digits("f90107 01 8107 b90100"), zeros, digits("c0")}, api.ErrRlpByte},
		{[][]byte{digits("f90107 01 8180 b90100"), zeros, digits("c0")}, api.OK},
		{[][]byte{digits("f90107 02 8107 b90100"), zeros, digits("c0")}, api.ErrRlpByte},
		{[][]byte{digits("f90107 01 80 ba000100"), zeros, digits("c0")}, api.ErrRlpSize},
		{[][]byte{digits("fa000106 01 80 b90100"), zeros, digits("c0")}, api.ErrRlpSize},
		{[][]byte{digits("f90107 01 80 b90100"), zeros, digits("f800")}, api.ErrRlpSize},
		{[][]byte{digits("f90107 01 80 b90100"), zeros, digits("c0")}, api.ErrRlpEnd},
		{[][]byte{digits("f90105 01 80 b90100"), zeros, digits("c0")}, api.ErrRlpRest},
		{[][]byte{digits("f90106 01 80 b90100"), zeros, digits("c1")}, api.ErrRlpEnd},
		{[][]byte{digits("f90106 01 80 b90100"), zeros, digits("c0 c0")}, api.ErrRlpRest},
		{[][]byte{digits("f9011e 01 80 b90100"), filter[:], digits("d8"), log}, api.OK},
		{[][]byte{digits("f9011e 02 80 b90100"), zeros, digits("d8"), log[:22], digits("c0 81")}, api.ErrRlpEnd},
		{[][]byte{digits("f9011f 01 80 b90100"), filter[:], digits("d9 d8"), log[1:22], digits("c0 8105")}, api.ErrRlpByte},
	} {
		for kind := range kinds {
			data := slices.Concat(c.parts...)
			if kind > 0 {
				data = append([]byte{byte(kind)}, data...)
			}
			wantError(t, data, c.want)
		}
	}
}

// P17.7: each first byte, with nothing, with what is no list, and with each type's list behind it.
func TestFirstBytes(t *testing.T) {
	row := chance.Row(1721)
	for first := range 256 {
		bodies := [][]byte{nil, {0x80}, {0xc0}, {0x01}, {0xff}, modelBytes(modelTree(api.Receipt{Rooted: true}))}
		for kind := range kinds {
			bodies = append(bodies, modelBytes(modelTree(anyReceipt(&row, kind))))
		}
		for _, body := range bodies {
			data := append([]byte{byte(first)}, body...)
			e := checkDecode(t, data)
			if (e == api.ErrRcType) != (first == 0 || first >= 5 && first <= 0xbf) {
				t.Errorf("the first byte %x: %d", first, e)
			}
		}
	}
	plain := modelTree(api.Receipt{Status: 1})
	for kind := range kinds {
		r, e := receipt.Decode(sealed(kind, plain))
		if r.Type != kind || e != api.OK {
			t.Errorf("type %d: %+v, %d", kind, r, e)
		}
	}
}

// P17.7: lists of all lengths, and what is no list.
func TestFieldCounts(t *testing.T) {
	whole := modelTree(api.Receipt{Status: 1, Used: 7})
	for kind := range kinds {
		for n := range 12 {
			for _, it := range []api.Item{text(), text(1), list(), text(0), filled(0, 256)} {
				e := checkDecode(t, sealed(kind, list(slices.Repeat([]api.Item{it}, n)...)))
				if (e == api.ErrRcFields) != (n != 4) {
					t.Errorf("type %d with %d items: %d", kind, n, e)
				}
			}
		}
		for i := range 4 {
			wantError(t, sealed(kind, list(slices.Delete(slices.Clone(whole.Items), i, i+1)...)), api.ErrRcFields)
			wantError(t, sealed(kind, list(slices.Insert(slices.Clone(whole.Items), i, whole.Items[i])...)), api.ErrRcFields)
		}
		wantError(t, sealed(kind, list(whole)), api.ErrRcFields)
		if kind > 0 {
			for _, it := range []api.Item{text(), text(1), text(byte(kind)), text(0x80), text(modelBytes(whole)...), filled(1, 32), filled(0, 4)} {
				wantError(t, sealed(kind, it), api.ErrRcFields)
			}
		}
	}
}

// P17.7: texts of all lengths in the place of each of the first three fields; lists there.
func TestFields(t *testing.T) {
	for kind := range kinds {
		whole := modelTree(api.Receipt{})
		put := func(i int, it api.Item) []byte { return sealed(kind, replaced(whole, i, it)) }
		for n := range 300 {
			for _, b := range []byte{0, 1, 2, 0x7f, 0x80, 0xff} {
				it := filled(b, n)
				first, used, filter := api.ErrRcField, api.ErrRcField, api.ErrRcField
				if n == 0 || n == 1 && b == 1 || n == 32 && kind == 0 {
					first = api.OK
				}
				if n == 0 || n <= 8 && b != 0 {
					used = api.OK
				}
				if n == 256 {
					filter = api.ErrRcBloom
				}
				if n == 256 && b == 0 {
					filter = api.OK
				}
				wantError(t, put(0, it), first)
				wantError(t, put(1, it), used)
				wantError(t, put(2, it), filter)
				wantError(t, put(3, it), api.ErrRcField)
			}
		}
		for _, it := range []api.Item{list(), list(text()), list(text(1)), list(list()), list(filled(0, 32)), list(filled(0, 256))} {
			for i := range 3 {
				wantError(t, put(i, it), api.ErrRcField)
			}
		}
		for b := range 256 {
			want := api.ErrRcField
			if b == 1 {
				want = api.OK
			}
			wantError(t, put(0, text(byte(b))), want)
			wantError(t, put(0, text(0, byte(b))), api.ErrRcField)
			wantError(t, put(0, text(byte(b), 1)), api.ErrRcField)
		}
	}
	r, e := receipt.Decode(sealed(0, modelTree(api.Receipt{Rooted: true, Root: api.Hash{31: 1}})))
	if !sameReceipt(r, api.Receipt{Rooted: true, Root: api.Hash{31: 1}}) || e != api.OK {
		t.Errorf("a root that ends with 1: %+v, %d", r, e)
	}
}

// P17.7: of several wrong things that one is told that comes first: a field, then the logs in their order, then the bloom.
func TestFirstWrongThing(t *testing.T) {
	good := logTree(api.Log{Address: api.Address{1}, Topics: []api.Hash{{2}}})
	field, topics := list(text(), list(), text()), replaced(good, 1, list(slices.Repeat([]api.Item{filled(0, 32)}, 5)...))
	for kind := range kinds {
		for _, c := range []struct {
			logs []api.Item
			want api.Errno
		}{
			{nil, api.ErrRcBloom}, {[]api.Item{good}, api.ErrRcBloom}, {[]api.Item{field}, api.ErrRcField}, {[]api.Item{topics}, api.ErrRcTopics}, {[]api.Item{good, topics}, api.ErrRcTopics}, {[]api.Item{good, field, good}, api.ErrRcField},
			{[]api.Item{topics, field}, api.ErrRcTopics}, {[]api.Item{field, topics}, api.ErrRcField}, {[]api.Item{good, topics, good, field}, api.ErrRcTopics}, {[]api.Item{good, field, good, topics}, api.ErrRcField},
			{[]api.Item{topics, text()}, api.ErrRcTopics}, {[]api.Item{text(), topics}, api.ErrRcField}, {[]api.Item{topics, list()}, api.ErrRcTopics}, {[]api.Item{list(), topics}, api.ErrRcField},
		} {
			whole := list(text(), text(), text(bytes.Repeat([]byte{0xaa}, 256)...), list(c.logs...)) // another bloom than any log's
			wantError(t, sealed(kind, whole), c.want)
			for i, wrong := range []api.Item{text(2), text(0), filled(0, 255), text()} {
				wantError(t, sealed(kind, replaced(whole, i, wrong)), api.ErrRcField)
			}
			wantError(t, append(sealed(kind, whole), 0), api.ErrRlpRest)
			wantError(t, sealed(kind, list(append(slices.Clone(whole.Items), text())...)), api.ErrRcFields)
		}
	}
}

// P17.7: the bloom must be that of the logs that are read, in each of its bits.
func TestDecodeBlooms(t *testing.T) {
	row := chance.Row(1722)
	for kind := range kinds {
		r := withBloom(api.Receipt{Type: kind, Status: 1, Logs: anyLogs(&row, 2)})
		for i := range 2048 {
			r.Bloom[i/8] ^= 1 << (i % 8)
			wantError(t, sealed(kind, modelTree(r)), api.ErrRcBloom)
			r.Bloom[i/8] ^= 1 << (i % 8)
		}
		for i := range 2048 {
			b := api.Bloom{}
			b[i/8] = 1 << (i % 8)
			wantError(t, sealed(kind, modelTree(api.Receipt{Type: kind, Bloom: b})), api.ErrRcBloom)
		}
		wantError(t, sealed(kind, modelTree(r)), api.OK)
	}
}

// P17.7: each item of a tree changed in each way, and trees that are spoilt by chance.
func TestSpoiltTrees(t *testing.T) {
	row := chance.Row(1723)
	counts := map[api.Errno]int{}
	for kind := range kinds {
		for range 3 {
			eachChange(modelTree(anyReceipt(&row, kind)), func(it api.Item) {
				counts[checkDecode(t, sealed(kind, it))]++
				if len(it.Items) != 4 || len(it.Items[3].Items) == 0 { // and with the bloom of the logs, if there are some
					return
				}
				var logs []api.Log
				for _, inner := range it.Items[3].Items {
					if l, e := modelParseLog(inner); e == api.OK {
						logs = append(logs, l)
					}
				}
				b := modelBloom(logs)
				counts[checkDecode(t, sealed(kind, replaced(it, 2, text(b[:]...))))]++
			})
		}
	}
	for range 10000 {
		kind := row.Below(kinds)
		it := modelTree(anyReceipt(&row, kind))
		for range 1 + row.Below(3) {
			it = spoilt(&row, it)
		}
		counts[checkDecode(t, sealed(kind, it))]++
	}
	for _, e := range []api.Errno{api.OK, api.ErrRcFields, api.ErrRcField, api.ErrRcBloom, api.ErrRcTopics} {
		if counts[e] < 50 {
			t.Errorf("the answer %d hardly ever comes: %v", e, counts)
		}
	}
}

// P17.7, P17.8: each text that another one begins with, bytes behind it, and bytes that are changed.
func TestSpoiltBytes(t *testing.T) {
	row := chance.Row(1724)
	counts := map[api.Errno]int{}
	for kind := range kinds {
		for range 4 {
			data := sealed(kind, modelTree(anyReceipt(&row, kind)))
			for n := range data {
				if e := checkDecode(t, data[:n]); e == api.OK {
					t.Errorf("the first %d bytes of %x are taken", n, data)
				}
			}
			for _, more := range [][]byte{{0}, {0x80}, {0xc0}, data} {
				wantError(t, slices.Concat(data, more), api.ErrRlpRest)
			}
			for i := range data {
				twin := slices.Clone(data)
				twin[i] ^= 1 << row.Below(8)
				counts[checkDecode(t, twin)]++
				twin[i] = byte(row.Next())
				counts[checkDecode(t, twin)]++
			}
		}
	}
	for range 5000 {
		counts[checkDecode(t, row.Text(row.Below(40)))]++
		short := append([]byte{byte(row.Below(6))}, 0xc0+byte(row.Below(6)))
		counts[checkDecode(t, append(short, row.Text(row.Below(6))...))]++
	}
	for _, e := range []api.Errno{api.OK, api.ErrRlpEnd, api.ErrRlpRest, api.ErrRlpSize, api.ErrRcFields, api.ErrRcType, api.ErrRcField, api.ErrRcBloom} {
		if counts[e] < 20 {
			t.Errorf("the answer %d hardly ever comes: %v", e, counts)
		}
	}
}

// P17.7, P0.1: lists within lists, as deep as rlp reads them and deeper.
func TestDeep(t *testing.T) {
	deep := func(n int) api.Item {
		it := list()
		for range n - 1 {
			it = list(it)
		}
		return it
	}
	for kind := range kinds {
		whole := modelTree(api.Receipt{})
		for i := range 4 {
			wantError(t, sealed(kind, replaced(whole, i, deep(1023))), api.ErrRcField)
			wantError(t, sealed(kind, replaced(whole, i, deep(1024))), api.ErrRlpDeep)
		}
		wantError(t, sealed(kind, deep(1024)), api.ErrRcFields)
		wantError(t, sealed(kind, deep(1025)), api.ErrRlpDeep)
	}
}
