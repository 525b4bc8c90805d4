package nibble_test

import (
	"bytes"
	"slices"
	"testing"

	"waybill/api"
	"waybill/chance"
	"waybill/nibble"
)

// P11.1, P11.2: the chapter's first example.
func TestExampleOfKeys(t *testing.T) {
	if got := nibble.Of([]byte{0x12, 0xab}); !bytes.Equal(got, []byte{1, 2, 10, 11}) {
		t.Errorf("Of(12 ab) = %v", got)
	}
	if got, e := nibble.Key([]byte{1, 2, 10, 11}); !bytes.Equal(got, []byte{0x12, 0xab}) || e != api.OK {
		t.Errorf("Key(1 2 10 11) = %x, %d", got, e)
	}
	for _, row := range [][]byte{{1}, {16, 0}} {
		if got, e := nibble.Key(row); len(got) != 0 || e != api.ErrNibble {
			t.Errorf("Key(%v) = %x, %d", row, got, e)
		}
	}
	for _, nothing := range [][]byte{nil, {}} {
		if got, e := nibble.Key(nothing); len(got) != 0 || e != api.OK {
			t.Errorf("Key() = %x, %d", got, e)
		}
		if got := nibble.Of(nothing); len(got) != 0 {
			t.Errorf("Of() = %v", got)
		}
	}
}

// P11.1, P11.7: every byte alone, and beside others.
func TestOfEachByte(t *testing.T) {
	for v := range 256 {
		b := byte(v)
		if got := nibble.Of([]byte{b}); !bytes.Equal(got, []byte{b / 16, b % 16}) {
			t.Errorf("Of(%x) = %v", b, got)
		}
		checkOf(t, []byte{b, 0})
		checkOf(t, []byte{0, b})
		checkOf(t, []byte{255, b, 255})
	}
}

// P11.1, P11.7: keys of all lengths, api's longest and longer ones among them.
func TestOf(t *testing.T) {
	row := chance.Row(1)
	for n := range 200 {
		checkOf(t, row.Text(n))
	}
	checkOf(t, row.Text(100000))
}

// P11.2: each pair of elements, those above 15 too.
func TestKeyEachPair(t *testing.T) {
	counts := map[api.Errno]int{}
	for high := range 256 {
		for low := range 256 {
			counts[checkKey(t, []byte{byte(high), byte(low)})]++
		}
	}
	if counts[api.OK] != 256 || counts[api.ErrNibble] != 65536-256 {
		t.Errorf("so many of each answer: %v", counts)
	}
}

// P11.2: the one wrong element may stand anywhere, and be any; an odd number is wrong in all lengths.
func TestKeyWrong(t *testing.T) {
	row := chance.Row(2)
	for n := range 70 {
		list := anyRow(&row, n)
		if e := checkKey(t, list); (e == api.OK) != (n%2 == 0) {
			t.Errorf("%d nibbles: %d", n, e)
		}
		for i := range list {
			for _, wrong := range []byte{16, 17, 31, 32, 64, 128, 240, 255} {
				broken := slices.Clone(list)
				broken[i] = wrong
				if e := checkKey(t, broken); e != api.ErrNibble {
					t.Errorf("%d at %d of %d: %d", wrong, i, n, e)
				}
			}
		}
	}
}

// P11.2, P11.7: rows by chance.
func TestKey(t *testing.T) {
	row := chance.Row(3)
	counts := map[api.Errno]int{}
	for range 2000 {
		counts[checkKey(t, anyRow(&row, row.Below(140)))]++
	}
	checkKey(t, anyRow(&row, 200000))
	if counts[api.OK] < 500 || counts[api.ErrNibble] < 500 {
		t.Errorf("so many of each answer: %v", counts)
	}
}
