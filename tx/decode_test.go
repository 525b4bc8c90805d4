package tx_test

import (
	"bytes"
	"slices"
	"strings"
	"testing"

	"waybill/api"
	"waybill/chance"
	"waybill/tx"
)

// checkDecode holds Decode against its model (P15.6, P0.2), what it answers against P15.8, and tells the error.
func checkDecode(t *testing.T, data []byte) api.Errno {
	t.Helper()
	want, wantE := modelDecode(data)
	x, e := tx.Decode(data)
	if e != wantE || !modelSame(x, want) {
		t.Errorf("Decode(%x) = %+v, %d, want %+v, %d", short(data), x, e, want, wantE)
	}
	if e != api.OK {
		return e
	}
	if e := tx.Check(x); e != api.OK {
		t.Errorf("Check of Decode(%x): %d", short(data), e)
	}
	if b, e := tx.Encode(x); !bytes.Equal(b, data) || e != api.OK {
		t.Errorf("Encode of Decode(%x): %x, %d", short(data), short(b), e)
	}
	return e
}

// wantError wants just that error of Decode, and nothing beside it.
func wantError(t *testing.T, data []byte, want api.Errno) {
	t.Helper()
	if x, e := tx.Decode(data); e != want || e != api.OK && !modelSame(x, api.Tx{}) {
		t.Errorf("Decode(%x) = %+v, %d, want %d", short(data), x, e, want)
	}
	checkDecode(t, data)
}

// P15.6: the chapter's fourth example, and some more of its kind.
func TestExamplesOfDecode(t *testing.T) {
	empties := func(n int) string { return strings.Repeat("80", n) }
	for _, c := range []struct {
		data string
		want api.Errno
	}{
		{"", api.ErrRlpEnd}, {"00", api.ErrTxType}, {"05 c0", api.ErrTxType}, {"80", api.ErrTxForm}, {"bf", api.ErrTxForm}, {"01", api.ErrRlpEnd}, {"02 80", api.ErrRlpKind}, {"c0", api.ErrTxFields}, {"02 c0", api.ErrTxFields},
		{"c9" + empties(9), api.ErrTxSig}, {"c9 00" + empties(8), api.ErrRlpZero}, {"c9 c0" + empties(8), api.ErrRlpKind},
		{"c9" + empties(6) + "1b 80 80", api.OK}, {"c9" + empties(6) + "1a 80 80", api.ErrTxSig}, {"c9" + empties(6) + "23 80 80", api.ErrTxSig}, {"c9" + empties(6) + "24 80 80", api.ErrTxSig}, {"c9" + empties(6) + "25 80 80", api.OK},
		{"c8" + empties(8), api.ErrTxFields}, {"ca" + empties(10), api.ErrTxFields}, {"c9" + empties(8), api.ErrRlpEnd}, {"c9" + empties(10), api.ErrRlpRest}, {"01 cb" + empties(7) + "c0 80 80 80", api.OK}, {"01 01 cb" + empties(7) + "c0 80 80 80", api.ErrRlpRest}, {"01 01", api.ErrRlpKind},
		{"01 8c cb" + empties(11), api.ErrRlpKind}, {"03 ce" + empties(8) + "c0 80 c0 80 80 80", api.ErrTxTo}, {"04 cd" + empties(8) + "c0 c0 80 80 80", api.ErrTxTo},
	} {
		wantError(t, digits(c.data), c.want)
	}
	wantError(t, nil, api.ErrRlpEnd)
}

// P15.6: each first byte, with nothing and with each type's list behind it.
func TestFirstBytes(t *testing.T) {
	row := chance.Row(1540)
	for first := range 256 {
		bodies := [][]byte{nil, {0x80}, {0xc0}, {0xff}}
		for kind := range kinds {
			bodies = append(bodies, modelBytes(modelTree(anyTx(&row, kind))))
		}
		for _, body := range bodies {
			data := append([]byte{byte(first)}, body...)
			e := checkDecode(t, data)
			switch {
			case first == 0 || first >= 5 && first <= 0x7f:
				if e != api.ErrTxType {
					t.Errorf("the first byte %x: %d", first, e)
				}
			case first >= 0x80 && first <= 0xbf:
				if e != api.ErrTxForm {
					t.Errorf("the first byte %x: %d", first, e)
				}
			}
		}
	}
}

// P15.6: lists of all lengths, empty texts and 1 in them.
func TestFieldCounts(t *testing.T) {
	counts := []int{9, 11, 12, 14, 13}
	for kind, count := range counts {
		for n := range 20 {
			for _, it := range []api.Item{text(), text(1), list(), text(0)} {
				e := checkDecode(t, sealed(kind, list(slices.Repeat([]api.Item{it}, n)...)))
				if (e == api.ErrTxFields) != (n != count) {
					t.Errorf("type %d with %d items: %d", kind, n, e)
				}
			}
		}
		whole := modelTree(plain(kind))
		for i := range count {
			fewer := list(slices.Delete(slices.Clone(whole.Items), i, i+1)...)
			more := list(slices.Insert(slices.Clone(whole.Items), i, whole.Items[i])...)
			wantError(t, sealed(kind, fewer), api.ErrTxFields)
			wantError(t, sealed(kind, more), api.ErrTxFields)
		}
		for other := range kinds {
			if other != kind {
				wantError(t, sealed(other, whole), api.ErrTxFields)
			}
		}
	}
}

// place tells where a field stands in a type's row.
func place(t *testing.T, kind int, word string) int {
	i := slices.Index(wordsOf(kind), word)
	if i < 0 {
		t.Fatalf("type %d has no %s", kind, word)
	}
	return i
}

// P15.6: texts of all lengths in the place of each number, with and without zeros ahead; lists.
func TestNumbers(t *testing.T) {
	for kind := range kinds {
		whole := modelTree(plain(kind))
		for i, word := range wordsOf(kind) {
			_, isNumber := numbers(&api.Tx{})[word]
			_, isSmall := smalls(&api.Tx{})[word]
			if !isNumber && !isSmall {
				continue
			}
			width := 32
			if isSmall {
				width = 8
			}
			for n := range 40 {
				for _, first := range []byte{0, 1, 0x7f, 0x80, 0xff} {
					data := bytes.Repeat([]byte{first}, n)
					e := checkDecode(t, sealed(kind, replaced(whole, i, text(data...))))
					switch {
					case n > width:
						if e != api.ErrRlpWide {
							t.Errorf("type %d, %s of %d bytes: %d", kind, word, n, e)
						}
					case n > 0 && first == 0:
						if e != api.ErrRlpZero {
							t.Errorf("type %d, %s of %d zeros: %d", kind, word, n, e)
						}
					case word != "V" && word != "Chain" && e != api.OK:
						t.Errorf("type %d, %s of %d bytes %x: %d", kind, word, n, first, e)
					}
				}
			}
			for _, it := range []api.Item{list(), list(text(1)), list(list())} {
				wantError(t, sealed(kind, replaced(whole, i, it)), api.ErrRlpKind)
			}
		}
	}
}

// P15.6: To has 20 bytes or none, Data is a text; each of them is no list.
func TestTexts(t *testing.T) {
	for kind := range kinds {
		whole := modelTree(plain(kind))
		to, data := place(t, kind, "To"), place(t, kind, "Data")
		for n := range 70 {
			for _, b := range []byte{0, 1, 0xff} {
				it := text(bytes.Repeat([]byte{b}, n)...)
				want := api.ErrRlpWide
				if n == 20 || n == 0 && kind < 3 {
					want = api.OK
				} else if n == 0 {
					want = api.ErrTxTo
				}
				wantError(t, sealed(kind, replaced(whole, to, it)), want)
				wantError(t, sealed(kind, replaced(whole, data, it)), api.OK)
			}
		}
		for _, it := range []api.Item{list(), list(text()), list(text(make([]byte, 20)...)), list(list())} {
			wantError(t, sealed(kind, replaced(whole, to, it)), api.ErrRlpKind)
			wantError(t, sealed(kind, replaced(whole, data, it)), api.ErrRlpKind)
		}
		if kind < 3 {
			x, e := tx.Decode(sealed(kind, replaced(whole, to, text())))
			y, f := tx.Decode(sealed(kind, whole))
			if e != api.OK || f != api.OK || !x.Create || y.Create || x.To != nobody || y.To != nobody {
				t.Errorf("type %d without a receiver, and with the zero address: %+v, %+v, %d, %d", kind, x, y, e, f)
			}
		}
	}
}

// P15.6: access lists, authorizations and hashes that are wrong.
func TestLists(t *testing.T) {
	address, key := text(make([]byte, 20)...), text(make([]byte, 32)...)
	for kind := 1; kind < kinds; kind++ {
		whole, at := modelTree(plain(kind)), place(t, kind, "Access")
		for _, it := range []api.Item{text(), text(1), list(text()), list(list()), list(list(address)), list(list(address, text())), list(list(address, list(address))), list(list(key, list())), list(list(address, list(key)), list(list(), list(key)))} {
			wantError(t, sealed(kind, replaced(whole, at, it)), api.ErrAccess)
		}
		wantError(t, sealed(kind, replaced(whole, at, list(list(address, list(key, key)), list(address, list())))), api.OK)
	}
	auths, at := modelTree(plain(4)), place(t, 4, "Auths")
	for _, it := range []api.Item{text(), text(1), list(text()), list(list()), list(list(text(), address, text(), text(), text())), list(list(text(0), address, text(), text(), text(), text())), list(list(text(), address, text(), text(1, 0), text(), text())), list(list(text(), key, text(), text(), text(), text()))} {
		wantError(t, sealed(4, replaced(auths, at, it)), api.ErrAuth)
	}
	wantError(t, sealed(4, replaced(auths, at, list())), api.ErrTxEmpty)
	wantError(t, sealed(4, replaced(auths, at, list(list(text(), address, text(), text(255), text(), text())))), api.OK)

	blobs, at := modelTree(plain(3)), place(t, 3, "BlobHashes")
	hash, other := text(append([]byte{1}, make([]byte, 31)...)...), text(append([]byte{2}, make([]byte, 31)...)...)
	for _, c := range []struct {
		it   api.Item
		want api.Errno
	}{
		{text(), api.ErrRlpKind}, {text(1), api.ErrRlpKind}, {hash, api.ErrRlpKind}, {list(), api.ErrTxEmpty}, {list(hash), api.OK}, {list(hash, hash), api.OK}, {list(other), api.ErrTxField}, {list(hash, key), api.ErrTxField},
		{list(text()), api.ErrRlpWide}, {list(text(1)), api.ErrRlpWide}, {list(text(make([]byte, 31)...)), api.ErrRlpWide}, {list(text(make([]byte, 33)...)), api.ErrRlpWide}, {list(hash, text(hash.Data[:31]...)), api.ErrRlpWide},
		{list(list()), api.ErrRlpKind}, {list(list(hash)), api.ErrRlpKind}, {list(hash, list(hash)), api.ErrRlpKind}, {list(text(), list()), api.ErrRlpWide}, {list(list(), text()), api.ErrRlpKind}, {list(other, text()), api.ErrRlpWide}, {list(other, list()), api.ErrRlpKind},
		{list(slices.Repeat([]api.Item{hash}, 4096)...), api.OK}, {list(slices.Repeat([]api.Item{hash}, 4097)...), api.ErrTxField},
	} {
		wantError(t, sealed(3, replaced(blobs, at, c.it)), c.want)
	}
}

// P15.6: what is read is held against Check: of the types 1 to 4 Chain and V, of type 0 V.
func TestDecodeChecks(t *testing.T) {
	for kind := 1; kind < kinds; kind++ {
		whole, chain, v := modelTree(plain(kind)), place(t, kind, "Chain"), place(t, kind, "V")
		wantError(t, sealed(kind, replaced(whole, chain, small(api.MaxChain))), api.OK)
		wantError(t, sealed(kind, replaced(whole, chain, small(1<<63))), api.ErrTxChain)
		wantError(t, sealed(kind, replaced(whole, chain, small(most))), api.ErrTxChain)
		wantError(t, sealed(kind, replaced(whole, v, small(1))), api.OK)
		for _, wrong := range []uint64{2, 27, 28, 37, 256, most} {
			wantError(t, sealed(kind, replaced(whole, v, small(wrong))), api.ErrTxSig)
			wantError(t, sealed(kind, replaced(replaced(whole, v, small(wrong)), chain, small(1<<63))), api.ErrTxChain)
		}
	}
	whole, at := modelTree(plain(0)), place(t, 0, "V")
	for v := range uint64(300) {
		x, e := tx.Decode(sealed(0, replaced(whole, at, small(v))))
		chain, _, _, want := modelChain(api.U256{v})
		if e != want || x.Chain != chain {
			t.Errorf("V %d: Chain %d, %d", v, x.Chain, e)
		}
	}
	for _, chain := range []uint64{1, 1 << 32, api.MaxChain} {
		x, e := tx.Decode(sealed(0, replaced(whole, at, scalar(wide(legacyV(chain, 1))))))
		if x.Chain != chain || e != api.OK {
			t.Errorf("the V of %d: Chain %d, %d", chain, x.Chain, e)
		}
	}
	wantError(t, sealed(0, replaced(whole, at, scalar(wide(legacyV(1<<63, 0))))), api.ErrTxSig)
}

// P15.6, P0.1: of two wrong fields the first one's error is told, and any of them ahead of what Check says.
func TestFirstWrongField(t *testing.T) {
	wrong := func(word string) (api.Item, api.Errno) {
		switch word {
		case "Access":
			return text(), api.ErrAccess
		case "Auths":
			return text(), api.ErrAuth
		case "To":
			return text(1), api.ErrRlpWide
		case "Data", "BlobHashes", "Gas":
			return map[string]api.Item{"Data": list(), "BlobHashes": text(), "Gas": list()}[word], api.ErrRlpKind
		case "Nonce":
			return text(bytes.Repeat([]byte{1}, 9)...), api.ErrRlpWide
		}
		return text(0), api.ErrRlpZero
	}
	for kind := range kinds {
		words := wordsOf(kind)
		broken := modelTree(plain(kind)) // what Check would refuse
		if kind > 0 {
			broken = replaced(replaced(broken, 0, small(1<<63)), len(words)-3, small(2))
		} else {
			broken = replaced(broken, 6, small(35))
		}
		for i, first := range words {
			it, want := wrong(first)
			one := replaced(broken, i, it)
			wantError(t, sealed(kind, one), want)
			for j := i + 1; j < len(words); j++ {
				other, _ := wrong(words[j])
				wantError(t, sealed(kind, replaced(one, j, other)), want)
			}
		}
	}
}

// P15.6: each item of a tree changed in each way, and trees that are spoilt by chance.
func TestSpoiltTrees(t *testing.T) {
	row := chance.Row(1541)
	counts := map[api.Errno]int{}
	for kind := range kinds {
		for _, x := range []api.Tx{plain(kind), anyTx(&row, kind), anyTx(&row, kind)} {
			eachChange(modelTree(x), func(it api.Item) { counts[checkDecode(t, sealed(kind, it))]++ })
		}
	}
	for range 10000 {
		kind := row.Below(kinds)
		it := modelTree(anyTx(&row, kind))
		for range 1 + row.Below(3) {
			it = spoilt(&row, it)
		}
		counts[checkDecode(t, sealed(kind, it))]++
	}
	for _, e := range []api.Errno{api.OK, api.ErrRlpKind, api.ErrRlpZero, api.ErrRlpWide, api.ErrTxFields, api.ErrAccess, api.ErrAuth, api.ErrTxSig, api.ErrTxField, api.ErrTxTo, api.ErrTxEmpty} {
		if counts[e] < 10 {
			t.Errorf("the answer %d hardly ever comes: %v", e, counts)
		}
	}
}

// P15.6, P15.8: each text that another one begins with, bytes behind it, and bytes that are changed.
func TestSpoiltBytes(t *testing.T) {
	row := chance.Row(1542)
	counts := map[api.Errno]int{}
	for kind := range kinds {
		for range 10 {
			data := sealed(kind, modelTree(anyTx(&row, kind)))
			for n := range data {
				if e := checkDecode(t, data[:n]); e == api.OK {
					t.Errorf("the first %d bytes of %x are taken", n, data)
				}
			}
			for _, more := range [][]byte{{0}, {0x80}, {0xc0}, data} {
				wantError(t, slices.Concat(data, more), api.ErrRlpRest)
			}
			for i := range data {
				twin := slices.Clone(data)
				twin[i] ^= 1 << row.Below(8)
				counts[checkDecode(t, twin)]++
				twin[i] = byte(row.Next())
				counts[checkDecode(t, twin)]++
			}
		}
	}
	for range 5000 {
		counts[checkDecode(t, row.Text(row.Below(40)))]++
		short := append([]byte{byte(row.Below(6))}, 0xc0+byte(row.Below(16)))
		counts[checkDecode(t, append(short, row.Text(row.Below(16))...))]++
	}
	for _, e := range []api.Errno{api.OK, api.ErrRlpEnd, api.ErrRlpRest, api.ErrRlpByte, api.ErrTxFields, api.ErrTxForm, api.ErrTxType} {
		if counts[e] < 20 {
			t.Errorf("the answer %d hardly ever comes: %v", e, counts)
		}
	}
}

// P15.6, P0.1: lists within lists, as deep as rlp reads them and deeper.
func TestDeep(t *testing.T) {
	deep := func(n int) api.Item {
		it := list()
		for range n - 1 {
			it = list(it)
		}
		return it
	}
	for kind := range kinds {
		whole := modelTree(plain(kind))
		for i, word := range wordsOf(kind) {
			want := api.ErrRlpKind
			switch word {
			case "Access":
				want = api.ErrAccess
			case "Auths":
				want = api.ErrAuth
			}
			wantError(t, sealed(kind, replaced(whole, i, deep(1023))), want)
			wantError(t, sealed(kind, replaced(whole, i, deep(1024))), api.ErrRlpDeep)
		}
		wantError(t, sealed(kind, deep(1024)), api.ErrTxFields)
	}
}
