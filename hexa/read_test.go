package hexa_test

import (
	"bytes"
	"testing"

	"waybill/api"
	"waybill/chance"
	"waybill/hexa"
)

// checkReaders holds all readers to the models at one text, and their answers to the way back (P8.8); it counts what comes.
func checkReaders(t *testing.T, s string, seen map[string]int) {
	t.Helper()
	b, e := hexa.ParseData(s)
	wantB, wantE := modelParseData(s)
	if !bytes.Equal(b, wantB) || e != wantE {
		t.Fatalf("ParseData(%q) = %x, %v, want %x, %v", s, b, e, wantB, wantE)
	}
	if again, _ := hexa.Data(b); e == api.OK && again != lower(s) {
		t.Fatalf("Data of what %q is = %q", s, again)
	}
	seen["ParseData "+e.Error()]++
	v, e := hexa.ParseQuantity(s)
	if want, wantE := modelParseQuantity(s, 64); v != want || e != wantE {
		t.Fatalf("ParseQuantity(%q) = %x, %v, want %x, %v", s, v, e, want, wantE)
	}
	if again := hexa.Quantity(v); e == api.OK && again != lower(s) {
		t.Fatalf("Quantity of what %q is = %q", s, again)
	}
	seen["ParseQuantity "+e.Error()]++
	low, e := hexa.ParseUint(s)
	if want, wantE := modelParseUint(s); low != want || e != wantE {
		t.Fatalf("ParseUint(%q) = %x, %v, want %x, %v", s, low, e, want, wantE)
	}
	if again := hexa.Uint(low); e == api.OK && again != lower(s) {
		t.Fatalf("Uint of what %q is = %q", s, again)
	}
	seen["ParseUint "+e.Error()]++
	a, e := hexa.ParseAddress(s)
	if want, wantE := modelParseAddress(s); a != want || e != wantE {
		t.Fatalf("ParseAddress(%q) = %x, %v, want %x, %v", s, a, e, want, wantE)
	}
	seen["ParseAddress "+e.Error()]++
	h, e := hexa.ParseHash(s)
	if want, wantE := modelParseHash(s); h != want || e != wantE {
		t.Fatalf("ParseHash(%q) = %x, %v, want %x, %v", s, h, e, want, wantE)
	}
	if again := hexa.HashText(h); e == api.OK && again != lower(s) {
		t.Fatalf("HashText of what %q is = %q", s, again)
	}
	seen["ParseHash "+e.Error()]++
}

// P8.2, P8.4, P8.6, P8.7: all short texts of telling bytes, with the front and without.
func TestShortTexts(t *testing.T) {
	seen := map[string]int{}
	var grow func(s string, more int)
	grow = func(s string, more int) {
		checkReaders(t, s, seen)
		checkReaders(t, "0x"+s, seen)
		if more == 0 {
			return
		}
		for _, c := range []byte(tellingBytes()) {
			grow(s+string([]byte{c}), more-1)
		}
	}
	grow("", 3)
}

// P8.2, P8.4, P8.6, P8.7: every byte at the first place, at the last one, between and in the front, of texts of all lengths that matter.
func TestEveryByte(t *testing.T) {
	seen := map[string]int{}
	for _, n := range []int{1, 2, 3, 15, 16, 17, 39, 40, 41, 63, 64, 65} {
		whole := "0x" + string(bytes.Repeat([]byte("7"), n))
		for _, at := range []int{0, 1, 2, 2 + n/2, 1 + n} {
			for c := range 256 {
				s := []byte(whole)
				s[at] = byte(c)
				checkReaders(t, string(s), seen)
			}
		}
	}
}

// P8.2, P8.4, P8.6 to P8.8: texts that were written, their letters' cases turned, some spoilt.
func TestSpoilt(t *testing.T) {
	row := chance.Row(88)
	seen := map[string]int{}
	for range 6000 {
		for _, s := range writtenByChance(&row) {
			checkReaders(t, s, seen)
			s = anyCase(&row, s)
			checkReaders(t, s, seen)
			checkReaders(t, spoilt(&row, s), seen)
		}
	}
	ok, form, odd, zero, wide, check := api.OK, api.ErrHexForm, api.ErrHexOdd, api.ErrHexZero, api.ErrHexWide, api.ErrHexCheck
	for name, answers := range map[string][]api.Errno{"ParseData": {ok, form, odd}, "ParseQuantity": {ok, form, zero, wide}, "ParseUint": {ok, form, zero, wide}, "ParseAddress": {ok, form, check}, "ParseHash": {ok, form}} {
		for _, e := range answers {
			if seen[name+" "+e.Error()] < 100 {
				t.Errorf("%s: %v hardly ever comes", name, e)
			}
		}
	}
}

// writtenByChance tells a text of each kind.
func writtenByChance(row *chance.Row) []string {
	data, _ := hexa.Data(row.Text(row.Below(40)))
	return []string{data, hexa.Quantity(row.Number()), hexa.Uint(row.Next() >> row.Below(64)), hexa.Checksum(anyAddress(row)), hexa.HashText(api.Hash(row.Text(32)))}
}
