package nibble_test

import (
	"bytes"
	"encoding/hex"
	"slices"
	"strings"
	"testing"

	"waybill/api"
	"waybill/chance"
	"waybill/nibble"
)

const digits = "0123456789abcdef"

// unhex reads bytes in hexadecimal digits.
func unhex(s string) []byte {
	b, err := hex.DecodeString(s)
	if err != nil {
		panic("not digits: " + s)
	}
	return b
}

// The models follow the chapter's words through texts of hexadecimal digits, of which each one is a nibble.

// rowOf reads a row of digits.
func rowOf(s string) []byte {
	row := make([]byte, len(s))
	for i := range row {
		row[i] = byte(strings.IndexByte(digits, s[i]))
	}
	return row
}

// told writes a row as digits, and says whether each element is a nibble.
func told(row []byte) (string, bool) {
	var s strings.Builder
	for _, n := range row {
		if int(n) >= len(digits) {
			return "", false
		}
		s.WriteByte(digits[n])
	}
	return s.String(), true
}

func modelOf(key []byte) []byte { return rowOf(hex.EncodeToString(key)) }

func modelKey(row []byte) ([]byte, api.Errno) {
	s, ok := told(row)
	if !ok || len(s)%2 == 1 {
		return nil, api.ErrNibble
	}
	return unhex(s), api.OK
}

func modelPack(row []byte, leaf bool) ([]byte, api.Errno) {
	s, ok := told(row)
	if !ok {
		return nil, api.ErrNibble
	}
	head := map[bool][2]string{false: {"00", "1"}, true: {"20", "3"}}[leaf][len(s)%2]
	return unhex(head + s), api.OK
}

func modelUnpack(data []byte) ([]byte, bool, api.Errno) {
	s := hex.EncodeToString(data)
	for _, head := range []string{"00", "20", "1", "3"} {
		if strings.HasPrefix(s, head) {
			return rowOf(s[len(head):]), head == "20" || head == "3", api.OK
		}
	}
	return nil, false, api.ErrNibble
}

func modelCommon(a, b []byte) int {
	for n := min(len(a), len(b)); n > 0; n-- {
		if bytes.Equal(a[:n], b[:n]) {
			return n
		}
	}
	return 0
}

// The check functions hold the program against the models and tell the answer's error or order, so that the tests can count them.

func checkKey(t *testing.T, row []byte) api.Errno {
	t.Helper()
	want, wantE := modelKey(row)
	got, e := nibble.Key(row)
	if !bytes.Equal(got, want) || e != wantE {
		t.Errorf("Key(%v) = %x, %d, want %x, %d", row, got, e, want, wantE)
	}
	if wantE == api.OK && !bytes.Equal(nibble.Of(got), row) {
		t.Errorf("Of(Key(%v)) = %v", row, nibble.Of(got))
	}
	return wantE
}

func checkOf(t *testing.T, key []byte) {
	t.Helper()
	row := nibble.Of(key)
	if want := modelOf(key); !bytes.Equal(row, want) {
		t.Errorf("Of(%x) = %v, want %v", key, row, want)
	}
	if back, e := nibble.Key(row); !bytes.Equal(back, key) || e != api.OK {
		t.Errorf("Key(Of(%x)) = %x, %d", key, back, e)
	}
}

func checkPack(t *testing.T, row []byte, leaf bool) api.Errno {
	t.Helper()
	want, wantE := modelPack(row, leaf)
	got, e := nibble.Pack(row, leaf)
	if !bytes.Equal(got, want) || e != wantE {
		t.Errorf("Pack(%v, %t) = %x, %d, want %x, %d", row, leaf, got, e, want, wantE)
	}
	if wantE == api.OK {
		if back, mark, e := nibble.Unpack(got); !bytes.Equal(back, row) || mark != leaf || e != api.OK {
			t.Errorf("Unpack(Pack(%v, %t)) = %v, %t, %d", row, leaf, back, mark, e)
		}
	}
	return wantE
}

func checkUnpack(t *testing.T, data []byte) api.Errno {
	t.Helper()
	want, wantMark, wantE := modelUnpack(data)
	got, mark, e := nibble.Unpack(data)
	if !bytes.Equal(got, want) || mark != wantMark || e != wantE {
		t.Errorf("Unpack(%x) = %v, %t, %d, want %v, %t, %d", data, got, mark, e, want, wantMark, wantE)
	}
	if wantE == api.OK {
		if back, e := nibble.Pack(got, mark); !bytes.Equal(back, data) || e != api.OK {
			t.Errorf("Pack(Unpack(%x)) = %x, %d", data, back, e)
		}
	}
	return wantE
}

// checkPair holds Common and Compare against their models: the order is that of bytes.Compare.
func checkPair(t *testing.T, a, b []byte) int {
	t.Helper()
	common := modelCommon(a, b)
	if got, turned := nibble.Common(a, b), nibble.Common(b, a); got != common || turned != common {
		t.Errorf("Common of %v and %v = %d, turned %d, want %d", a, b, got, turned, common)
	}
	order := bytes.Compare(a, b)
	if got, turned := nibble.Compare(a, b), nibble.Compare(b, a); got != order || turned != -order {
		t.Errorf("Compare of %v and %v = %d, turned %d, want %d", a, b, got, turned, order)
	}
	return order
}

// anyRow tells n nibbles.
func anyRow(row *chance.Row, n int) []byte {
	list := make([]byte, n)
	for i := range list {
		list[i] = byte(row.Below(16))
	}
	return list
}

// anyPair tells two lists that begin alike: the same, one cut short, one element changed, or with other ends.
func anyPair(row *chance.Row) ([]byte, []byte) {
	a := row.Text(row.Below(40))
	b := slices.Clone(a)
	at := row.Below(len(a))
	switch row.Below(4) {
	case 0:
		b = b[:at]
	case 1:
		if len(b) > 0 {
			b[at] += byte(row.Below(256))
		}
	case 2:
		b = append(b[:at], row.Text(row.Below(40))...)
	}
	return a, b
}

// The helpers themselves: an error in them would hide one in the program.
func TestHelpers(t *testing.T) {
	if !bytes.Equal(rowOf("01af"), []byte{0, 1, 10, 15}) {
		t.Error("rowOf")
	}
	if s, ok := told([]byte{0, 1, 10, 15}); s != "01af" || !ok {
		t.Error("told")
	}
	if _, ok := told([]byte{1, 16}); ok {
		t.Error("told takes 16")
	}
	if modelCommon([]byte("abcd"), []byte("abd")) != 2 || modelCommon(nil, []byte("a")) != 0 || modelCommon([]byte("ab"), []byte("abc")) != 2 {
		t.Error("modelCommon")
	}
}
