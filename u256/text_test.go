package u256_test

import (
	"math/big"
	"strings"
	"testing"

	"waybill/api"
	"waybill/chance"
	"waybill/u256"
)

const topText = "115792089237316195423570985008687907853269984665640564039457584007913129639935" // W - 1

// P1.13, and what follows: Text and Parse go back.
func TestTextParse(t *testing.T) {
	check := func(x api.U256) {
		s := u256.Text(x)
		if s != wide(x).String() {
			t.Errorf("Text(%v) = %s", x, s)
		}
		if back, e := u256.Parse(wide(x).String()); back != x || e != api.OK {
			t.Errorf("Parse(%s) = %v, %d", wide(x), back, e)
		}
	}
	for _, x := range append(edges(), sample()...) {
		check(x)
	}
	row := chance.Row(13)
	for range 5000 {
		check(row.Number())
	}
	for places := range 78 { // beside each power of ten a digit more, at each 19 a chunk more
		p := new(big.Int).Exp(big.NewInt(10), big.NewInt(int64(places)), nil)
		check(narrow(p))
		check(narrow(new(big.Int).Sub(p, big.NewInt(1))))
		check(narrow(new(big.Int).Add(p, big.NewInt(1))))
	}
}

// P1.13: the document's examples and other plain numbers.
func TestTextExamples(t *testing.T) {
	for _, c := range []struct {
		x api.U256
		s string
	}{
		{zero, "0"},
		{one, "1"},
		{num(10), "10"},
		{num(most), "18446744073709551615"},
		{api.U256{0, 1}, "18446744073709551616"},
		{api.U256{0, 0, 1}, "340282366920938463463374607431768211456"},
		{top, topText},
	} {
		if s := u256.Text(c.x); s != c.s {
			t.Errorf("Text(%v) = %s", c.x, s)
		}
		if x, e := u256.Parse(c.s); x != c.x || e != api.OK {
			t.Errorf("Parse(%s) = %v, %d", c.s, x, e)
		}
	}
}

// P1.13: each error, and which comes first where several apply.
func TestParseErrors(t *testing.T) {
	for _, c := range []struct {
		s string
		e api.Errno
	}{
		{"", api.ErrNumDigit},
		{"+1", api.ErrNumDigit},
		{"-1", api.ErrNumDigit},
		{" 1", api.ErrNumDigit},
		{"1 ", api.ErrNumDigit},
		{"1\n", api.ErrNumDigit},
		{"1\x00", api.ErrNumDigit},
		{"1_0", api.ErrNumDigit},
		{"1.0", api.ErrNumDigit},
		{"0x1", api.ErrNumDigit},
		{"a", api.ErrNumDigit},
		{"/", api.ErrNumDigit}, // the byte below '0'
		{":", api.ErrNumDigit}, // the byte above '9'
		{"\u0661", api.ErrNumDigit},
		{"\xff", api.ErrNumDigit},
		{"00a", api.ErrNumDigit},
		{topText + "a", api.ErrNumDigit},
		{topText + topText + "a", api.ErrNumDigit},
		{"00", api.ErrNumLead},
		{"007", api.ErrNumLead},
		{"0" + topText, api.ErrNumLead},
		{"0" + topText + topText, api.ErrNumLead},
		{topText[:77] + "6", api.ErrNumLong}, // W
		{"2" + topText[1:], api.ErrNumLong},
		{strings.Repeat("9", 78), api.ErrNumLong},
		{"1" + strings.Repeat("0", 78), api.ErrNumLong},
		{topText + "0", api.ErrNumLong},
		{strings.Repeat("9", 1000), api.ErrNumLong},
	} {
		if x, e := u256.Parse(c.s); x != zero || e != c.e {
			t.Errorf("Parse(%q) = %v, %d, want %d", c.s, x, e, c.e)
		}
	}
}

// P1.13, P0.7: a text may be of any length: no ErrLong.
func TestParseVeryLong(t *testing.T) {
	long := strings.Repeat("1", api.MaxInput+1)
	for _, c := range []struct {
		s string
		e api.Errno
	}{{long, api.ErrNumLong}, {long + "x", api.ErrNumDigit}, {"0" + long, api.ErrNumLead}, {strings.Repeat("0", api.MaxInput+1), api.ErrNumLead}} {
		if x, e := u256.Parse(c.s); x != zero || e != c.e {
			t.Errorf("Parse of %d bytes = %v, %d, want %d", len(c.s), x, e, c.e)
		}
	}
}

// What follows: Text(Parse(s)) is s where Parse answers OK, and only there is it a number's text.
func TestParseOneWay(t *testing.T) {
	for _, c := range []string{"0", "1", "9", "10", "19", "123456789012345678", "1234567890123456789", "12345678901234567890", "10000000000000000000", "100000000000000000000000000000000000001", topText} {
		x, e := u256.Parse(c)
		if e != api.OK || u256.Text(x) != c || x != parse(t, c) {
			t.Errorf("Text(Parse(%s)) = %s, %d", c, u256.Text(x), e)
		}
	}
}
