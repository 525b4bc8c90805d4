package nibble_test

import (
	"bytes"
	"slices"
	"testing"

	"waybill/chance"
	"waybill/nibble"
)

// lengths are those of which the tests below take rows and keys: none, odd and even ones, those of the longest keys.
func lengths() []int { return []int{0, 1, 2, 3, 4, 31, 32, 63, 64, 65, 128} }

// roomyRow tells n nibbles that have room beyond their end, in which other bytes stand, and the whole memory.
func roomyRow(row *chance.Row, n int) (list, whole []byte) {
	list, whole = row.Roomy(n)
	for i := range list {
		list[i] &= 15
	}
	return list, whole
}

// P11.9, P0.3: nothing is written into a list, nor into its room beyond the end, and what stands in that room counts for nothing.
func TestListsKept(t *testing.T) {
	row := chance.Row(31)
	for _, n := range lengths() {
		key, keyWhole := row.Roomy(n)
		list, listWhole := roomyRow(&row, n)
		data, dataWhole := row.Roomy(n + 1)
		data[0] = 0x31
		before := bytes.Join([][]byte{keyWhole, listWhole, dataWhole}, nil)
		checkOf(t, key)
		checkKey(t, list)
		checkPack(t, list, true)
		checkPack(t, list, false)
		checkUnpack(t, data)
		checkPair(t, key, list)
		checkPair(t, key, keyWhole)
		if !bytes.Equal(bytes.Join([][]byte{keyWhole, listWhole, dataWhole}, nil), before) {
			t.Errorf("a list of %d, or its room, was written to", n)
		}
	}
}

// overwrite fills a list and its room beyond the end.
func overwrite(list []byte) {
	whole := list[:cap(list)]
	for i := range whole {
		whole[i] = 0x77
	}
}

// P11.9, P0.3: who writes over an answer, or behind it, changes neither another one nor what was handed in.
func TestAnswersApart(t *testing.T) {
	row := chance.Row(32)
	for _, n := range lengths() {
		list := anyRow(&row, n)
		data, _ := nibble.Pack(list, true)
		calls := map[string]func(text []byte) []byte{
			"Of":     nibble.Of,
			"Key":    func(text []byte) []byte { got, _ := nibble.Key(text); return got },
			"Pack":   func(text []byte) []byte { got, _ := nibble.Pack(text, false); return got },
			"Unpack": func(text []byte) []byte { got, _, _ := nibble.Unpack(text); return got },
		}
		for name, call := range calls {
			for _, text := range [][]byte{list, data} {
				kept := slices.Clone(text)
				want := bytes.Clone(call(text))
				first, second := call(text), call(text)
				overwrite(first)
				if !bytes.Equal(second, want) || !bytes.Equal(call(text), want) {
					t.Errorf("two answers of %s share memory", name)
				}
				if !bytes.Equal(text, kept) {
					t.Errorf("an answer of %s shares memory with what was handed in", name)
				}
			}
		}
	}
}

// P11.9, P0.3: who writes over a list later changes no answer.
func TestAnswersStay(t *testing.T) {
	for _, n := range lengths() {
		row := chance.Row(33)
		list := anyRow(&row, n)
		cut, packed := nibble.Of(list), func() []byte { b, _ := nibble.Pack(list, true); return b }()
		joined, _ := nibble.Key(list)
		again, _, _ := nibble.Unpack(packed)
		want := [][]byte{bytes.Clone(cut), bytes.Clone(joined), bytes.Clone(again)}
		overwrite(list)
		overwrite(packed)
		for i, got := range [][]byte{cut, joined, again} {
			if !bytes.Equal(got, want[i]) {
				t.Errorf("answer %d of %d elements changed with what was handed in", i, n)
			}
		}
	}
}

// P0.6: what one call is asked shows in no other.
func TestSameAgain(t *testing.T) {
	ask := func() [][]byte {
		packed, _ := nibble.Pack([]byte{1, 2, 3}, true)
		row, _, _ := nibble.Unpack(packed)
		key, _ := nibble.Key([]byte{4, 5})
		return [][]byte{packed, row, key, nibble.Of([]byte{0x67})}
	}
	want := ask()
	nibble.Pack([]byte{9, 16}, false)
	nibble.Pack([]byte{9, 9}, false)
	nibble.Unpack([]byte{0xff, 1})
	nibble.Unpack([]byte{0, 1})
	nibble.Key([]byte{9})
	nibble.Of([]byte{0x99, 0x99})
	if got := ask(); !slices.EqualFunc(got, want, bytes.Equal) {
		t.Errorf("%x, and then %x", want, got)
	}
}
