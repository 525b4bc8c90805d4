package hexa_test

import (
	"strings"
	"testing"

	"waybill/api"
	"waybill/chance"
	"waybill/hexa"
	"waybill/u256"
)

// P8.3, P8.4: the chapter's examples and the edges.
func TestQuantityExamples(t *testing.T) {
	for _, c := range []struct {
		v api.U256
		s string
	}{
		{u256.From(0), "0x0"}, {u256.From(1), "0x1"}, {u256.From(9), "0x9"}, {u256.From(10), "0xa"}, {u256.From(15), "0xf"}, {u256.From(16), "0x10"}, {u256.From(255), "0xff"}, {u256.From(256), "0x100"}, {u256.From(1024), "0x400"},
		{u256.From(1<<64 - 1), "0x" + strings.Repeat("f", 16)}, {u256.From(1 << 63), "0x8" + strings.Repeat("0", 15)}, {u256.From(1<<60 - 1), "0x" + strings.Repeat("f", 15)},
		{api.U256{0, 1}, "0x1" + strings.Repeat("0", 16)}, {api.U256{5, 1}, "0x1" + strings.Repeat("0", 15) + "5"},
		{most(), "0x" + strings.Repeat("f", 64)}, {api.U256{3: 1 << 60}, "0x1" + strings.Repeat("0", 63)}, {api.U256{3: 1<<60 - 1}, "0x" + strings.Repeat("f", 15) + strings.Repeat("0", 48)},
		{api.U256{0x0123456789abcdef, 0xfedcba9876543210, 0x1122334455667788, 0x99aabbccddeeff00}, "0x99aabbccddeeff001122334455667788fedcba98765432100123456789abcdef"},
	} {
		checkQuantity(t, c.v, c.s)
	}
}

// checkQuantity holds the writers and readers of a number to its one text, and of a small one those of 64 bits too.
func checkQuantity(t *testing.T, v api.U256, s string) {
	t.Helper()
	if got := hexa.Quantity(v); got != s {
		t.Errorf("Quantity(%x) = %q, want %q", v, got, s)
	}
	low, fits := u256.Small(v)
	if got := hexa.Uint(low); fits == api.OK && got != s {
		t.Errorf("Uint(%x) = %q, want %q", low, got, s)
	}
	for _, told := range []string{s, "0x" + strings.ToUpper(s[2:])} {
		if got, e := hexa.ParseQuantity(told); got != v || e != api.OK {
			t.Errorf("ParseQuantity(%q) = %x, %v, want %x", told, got, e, v)
		}
		got, e := hexa.ParseUint(told)
		if fits == api.OK && (got != low || e != api.OK) {
			t.Errorf("ParseUint(%q) = %x, %v, want %x", told, got, e, low)
		}
		if fits != api.OK && (got != 0 || e != api.ErrHexWide) {
			t.Errorf("ParseUint(%q) = %x, %v, want too wide", told, got, e)
		}
	}
}

// P8.3, P8.4, P8.8: each power of two, what lies beside it, and numbers by chance.
func TestQuantityModel(t *testing.T) {
	row := chance.Row(85)
	one := u256.From(1)
	for n := range 256 {
		power := u256.Shl(one, n)
		below, _ := u256.Sub(power, one)
		for _, v := range []api.U256{power, below, u256.Or(power, one), u256.Shr(row.Number(), n)} {
			checkQuantity(t, v, modelQuantity(v))
		}
	}
	for range 3000 {
		v := row.Number()
		checkQuantity(t, v, modelQuantity(v))
	}
}

// P8.4: wrong texts, and which error comes first.
func TestParseQuantityWrong(t *testing.T) {
	form, zero, wide, ok := api.ErrHexForm, api.ErrHexZero, api.ErrHexWide, api.OK
	ones := func(n int) string { return strings.Repeat("1", n) }
	zeros := func(n int) string { return strings.Repeat("0", n) }
	for _, c := range []struct {
		s        string
		big, low api.Errno
	}{
		{"", form, form}, {"0", form, form}, {"x", form, form}, {"0x", form, form}, {"0X", form, form}, {"0X1", form, form}, {"1", form, form}, {"12", form, form}, {"123", form, form},
		{"0x-1", form, form}, {"0x+1", form, form}, {"-0x1", form, form}, {"+0x1", form, form}, {" 0x1", form, form}, {"0x 1", form, form}, {"0x1 ", form, form}, {"0x1\n", form, form}, {"0x1_0", form, form}, {"0x1.0", form, form}, {"0x1p1", form, form},
		{"0xg", form, form}, {"0xg1", form, form}, {"0x1g", form, form}, {"0x1g1", form, form}, {"0x\x80", form, form}, {"0x1\xff", form, form}, {"0x0x1", form, form}, {"\xb0x1", form, form},
		{"0x00", zero, zero}, {"0x01", zero, zero}, {"0x0400", zero, zero}, {"0x0a", zero, zero}, {"0x0g", form, form}, {"0x00g", form, form},
		{"0x" + ones(16), ok, ok}, {"0x" + ones(17), ok, wide}, {"0x" + ones(64), ok, wide}, {"0x" + ones(65), wide, wide}, {"0x1" + zeros(16), ok, wide}, {"0x1" + zeros(64), wide, wide},
		{"0x0" + ones(15), zero, zero}, {"0x0" + ones(16), zero, zero}, {"0x0" + ones(63), zero, zero}, {"0x0" + ones(64), zero, zero}, {"0x00" + zeros(16), zero, zero}, {"0x" + zeros(65), zero, zero},
		{"0x" + ones(65) + "g", form, form}, {"0x0" + ones(64) + "g", form, form}, {"0xg" + ones(65), form, form}, {"0X" + ones(65), form, form}, {ones(65), form, form},
	} {
		v, e := hexa.ParseQuantity(c.s)
		if e != c.big || e != api.OK && v != (api.U256{}) {
			t.Errorf("ParseQuantity(%q) = %x, %v, want %v", c.s, v, e, c.big)
		}
		low, e := hexa.ParseUint(c.s)
		if e != c.low || e != api.OK && low != 0 {
			t.Errorf("ParseUint(%q) = %x, %v, want %v", c.s, low, e, c.low)
		}
	}
}

// P8.4, P0.7: no length is too long by itself; the chapter's errors come at all lengths.
func TestParseQuantityLong(t *testing.T) {
	many := strings.Repeat("5", 2*api.MaxInput+10)
	for s, want := range map[string]api.Errno{"0x" + many: api.ErrHexWide, "0x0" + many: api.ErrHexZero, "0x" + many + "g": api.ErrHexForm, "0X" + many: api.ErrHexForm} {
		if v, e := hexa.ParseQuantity(s); v != (api.U256{}) || e != want {
			t.Errorf("ParseQuantity of a long text %q.. = %x, %v, want %v", short(s), v, e, want)
		}
		if v, e := hexa.ParseUint(s); v != 0 || e != want {
			t.Errorf("ParseUint of a long text %q.. = %x, %v, want %v", short(s), v, e, want)
		}
	}
}
