package nibble_test

import (
	"bytes"
	"slices"
	"testing"

	"waybill/api"
	"waybill/chance"
	"waybill/nibble"
)

// P11.3: the chapter's second example.
func TestExampleOfPack(t *testing.T) {
	for _, x := range []struct {
		row  []byte
		leaf bool
		data string
	}{
		{nil, false, "00"}, {[]byte{}, true, "20"}, {[]byte{1}, false, "11"}, {[]byte{15}, true, "3f"},
		{[]byte{1, 2}, false, "0012"}, {[]byte{1, 2, 3}, true, "3123"},
	} {
		if got, e := nibble.Pack(x.row, x.leaf); !bytes.Equal(got, unhex(x.data)) || e != api.OK {
			t.Errorf("Pack(%v, %t) = %x, %d", x.row, x.leaf, got, e)
		}
	}
}

// P11.4: the chapter's third example.
func TestExampleOfUnpack(t *testing.T) {
	if row, leaf, e := nibble.Unpack([]byte{0}); len(row) != 0 || leaf || e != api.OK {
		t.Errorf("Unpack(00) = %v, %t, %d", row, leaf, e)
	}
	if row, leaf, e := nibble.Unpack([]byte{0x3f, 0x1c}); !bytes.Equal(row, []byte{15, 1, 12}) || !leaf || e != api.OK {
		t.Errorf("Unpack(3f 1c) = %v, %t, %d", row, leaf, e)
	}
	for _, data := range [][]byte{nil, {}, {0x40}, {0x05}, {0x2f, 0}} {
		if row, leaf, e := nibble.Unpack(data); len(row) != 0 || leaf || e != api.ErrNibble {
			t.Errorf("Unpack(%x) = %v, %t, %d", data, row, leaf, e)
		}
	}
}

// P11.3, P11.4: rows whose packed form other programs' tests tell.
func TestKnownRows(t *testing.T) {
	for _, x := range []struct {
		row  string
		leaf bool
		data string
	}{
		{"0012345", false, "10012345"}, {"012345", false, "00012345"}, {"12345", false, "112345"}, {"001234", false, "00001234"},
		{"01234", false, "101234"}, {"1234", false, "001234"}, {"0012345", true, "30012345"}, {"001234", true, "20001234"},
		{"012345", true, "20012345"}, {"12345", true, "312345"}, {"1234", true, "201234"}, {"0f1cb8", true, "200f1cb8"}, {"f1cb8", true, "3f1cb8"},
	} {
		if got, e := nibble.Pack(rowOf(x.row), x.leaf); !bytes.Equal(got, unhex(x.data)) || e != api.OK {
			t.Errorf("Pack(%s, %t) = %x, %d", x.row, x.leaf, got, e)
		}
		if row, leaf, e := nibble.Unpack(unhex(x.data)); !bytes.Equal(row, rowOf(x.row)) || leaf != x.leaf || e != api.OK {
			t.Errorf("Unpack(%s) = %v, %t, %d", x.data, row, leaf, e)
		}
	}
}

// P11.3, P11.7: all rows of at most three nibbles, with both marks; no two have one packed form.
func TestPackShortRows(t *testing.T) {
	rows := [][]byte{{}}
	for i := 0; i < len(rows); i++ {
		if len(rows[i]) < 3 {
			for n := range 16 {
				rows = append(rows, append(slices.Clone(rows[i]), byte(n)))
			}
		}
	}
	seen := map[string]bool{}
	for _, row := range rows {
		for _, leaf := range []bool{false, true} {
			if e := checkPack(t, row, leaf); e != api.OK {
				t.Errorf("Pack(%v, %t): %d", row, leaf, e)
			}
			data, _ := nibble.Pack(row, leaf)
			if seen[string(data)] {
				t.Errorf("%x has two rows", data)
			}
			seen[string(data)] = true
		}
	}
	if len(seen) != 2*(1+16+256+4096) {
		t.Errorf("%d packed forms", len(seen))
	}
}

// P11.3, P0.2: the one wrong element may stand anywhere, the first of an odd row too, and be any.
func TestPackWrong(t *testing.T) {
	row := chance.Row(11)
	for wrong := 16; wrong < 256; wrong++ {
		for _, n := range []int{1, 2, 3, 4, 63, 64} {
			list := anyRow(&row, n)
			list[row.Below(n)] = byte(wrong)
			if checkPack(t, list, true) != api.ErrNibble || checkPack(t, list, false) != api.ErrNibble {
				t.Errorf("%d among %d is taken", wrong, n)
			}
		}
	}
	for n := range 40 {
		for i := range n {
			list := anyRow(&row, n)
			list[i] = 16
			if checkPack(t, list, n%4 < 2) != api.ErrNibble {
				t.Errorf("16 at %d of %d is taken", i, n)
			}
		}
	}
}

// P11.3, P11.7: rows of all lengths, those of the longest keys among them.
func TestPack(t *testing.T) {
	row := chance.Row(12)
	for n := range 300 {
		for _, leaf := range []bool{false, true} {
			if e := checkPack(t, anyRow(&row, n), leaf); e != api.OK {
				t.Errorf("a row of %d: %d", n, e)
			}
		}
	}
	checkPack(t, anyRow(&row, 200000), false)
	checkPack(t, anyRow(&row, 200001), true)
}

// P11.4, P11.7: each first byte, alone and with others behind it.
func TestUnpackEachFirst(t *testing.T) {
	taken := 0
	for v := range 256 {
		b := byte(v)
		e := checkUnpack(t, []byte{b})
		if e == api.OK {
			taken++
		}
		for _, rest := range [][]byte{{0}, {0xff}, {0x12, 0x34}, bytes.Repeat([]byte{0xa5}, 64)} {
			if checkUnpack(t, append([]byte{b}, rest...)) != e {
				t.Errorf("%x is taken alone or with %x behind it, and not both", b, rest)
			}
		}
	}
	if taken != 2+32 {
		t.Errorf("%d first bytes are taken", taken)
	}
}

// P11.4, P11.7: all texts of two bytes.
func TestUnpackEachPair(t *testing.T) {
	counts := map[api.Errno]int{}
	for v := range 65536 {
		counts[checkUnpack(t, []byte{byte(v >> 8), byte(v)})]++
	}
	if counts[api.OK] != 34*256 {
		t.Errorf("so many of each answer: %v", counts)
	}
}

// P11.4, P11.7: texts by chance, most of them with a first byte that may be taken.
func TestUnpack(t *testing.T) {
	row := chance.Row(13)
	counts := map[api.Errno]int{}
	for range 3000 {
		data := row.Text(row.Below(80))
		if len(data) > 0 {
			data[0] &= 0x7f >> row.Below(3)
			if row.Below(2) == 0 {
				data[0] &= 0xf0
			}
		}
		counts[checkUnpack(t, data)]++
	}
	checkUnpack(t, append([]byte{0x20}, row.Text(100000)...))
	if counts[api.OK] < 500 || counts[api.ErrNibble] < 500 {
		t.Errorf("so many of each answer: %v", counts)
	}
}
