package hexa_test

import (
	"encoding/hex"
	"math/big"
	"regexp"
	"strings"
	"testing"

	"waybill/api"
	"waybill/chance"
	"waybill/keccak"
	"waybill/u256"
)

// The models follow the chapter's words, with the library's own readers of digits and numbers.

var (
	anyDigits  = regexp.MustCompile(`\A0x[0-9a-fA-F]*\z`)
	someDigits = regexp.MustCompile(`\A0x[0-9a-fA-F]+\z`)
	digits40   = regexp.MustCompile(`\A0x[0-9a-fA-F]{40}\z`)
	digits64   = regexp.MustCompile(`\A0x[0-9a-fA-F]{64}\z`)
)

func modelParseData(s string) ([]byte, api.Errno) {
	if len(s) > 2+2*16777216 {
		return nil, api.ErrLong
	}
	if !anyDigits.MatchString(s) {
		return nil, api.ErrHexForm
	}
	if len(s)%2 != 0 {
		return nil, api.ErrHexOdd
	}
	return digits(s[2:]), api.OK
}

func modelQuantity(v api.U256) string {
	b := u256.Put(v)
	return "0x" + new(big.Int).SetBytes(b[:]).Text(16)
}

func modelParseQuantity(s string, most int) (api.U256, api.Errno) {
	if !someDigits.MatchString(s) {
		return api.U256{}, api.ErrHexForm
	}
	tail := s[2:]
	if len(tail) > 1 && strings.HasPrefix(tail, "0") {
		return api.U256{}, api.ErrHexZero
	}
	if len(tail) > most {
		return api.U256{}, api.ErrHexWide
	}
	n, _ := new(big.Int).SetString(tail, 16)
	v, e := u256.Get(n.Bytes())
	if e != api.OK {
		panic("not below 2^256: " + tail)
	}
	return v, api.OK
}

func modelParseUint(s string) (uint64, api.Errno) {
	v, e := modelParseQuantity(s, 16)
	return v[0], e
}

// modelChecksum finds the half bytes of the sum as its digits: those from 8 on are the characters from '8' on.
func modelChecksum(a api.Address) string {
	tail := hex.EncodeToString(a[:])
	h := keccak.Sum([]byte(tail))
	halves := hex.EncodeToString(h[:])
	told := "0x"
	for i := range tail {
		if halves[i] >= '8' {
			told += strings.ToUpper(tail[i : i+1])
		} else {
			told += tail[i : i+1]
		}
	}
	return told
}

func modelParseAddress(s string) (api.Address, api.Errno) {
	if !digits40.MatchString(s) {
		return api.Address{}, api.ErrHexForm
	}
	a := address(s[2:])
	if isOneCase(s[2:]) || s == modelChecksum(a) {
		return a, api.OK
	}
	return api.Address{}, api.ErrHexCheck
}

func modelParseHash(s string) (api.Hash, api.Errno) {
	if !digits64.MatchString(s) {
		return api.Hash{}, api.ErrHexForm
	}
	return api.Hash(digits(s[2:])), api.OK
}

// isOneCase tells whether letters are all small, or all capitals, or none.
func isOneCase(tail string) bool {
	return tail == strings.ToLower(tail) || tail == strings.ToUpper(tail)
}

// lower tells a text with small letters; its x is small already.
func lower(s string) string { return strings.ToLower(s) }

// digits reads bytes in hexadecimal digits.
func digits(s string) []byte {
	b, err := hex.DecodeString(s)
	if err != nil {
		panic("not digits: " + s)
	}
	return b
}

func address(s string) api.Address { return api.Address(digits(s)) }

// turned tells a letter of a text in its other case.
func turned(s string, at int) string { return s[:at] + string(s[at]^0x20) + s[at+1:] }

func isLetter(c byte) bool { return c >= 'a' && c <= 'f' || c >= 'A' && c <= 'F' }

// short cuts a text for a message.
func short(s string) string { return s[:min(len(s), 80)] }

// most is the greatest number.
func most() api.U256 { return u256.Not(u256.From(0)) }

// anyAddress tells one by chance; some have few letters, or none, or nothing else.
func anyAddress(row *chance.Row) api.Address {
	letters := row.Below(41) // of 40, about
	tail := make([]byte, 40)
	for i := range tail {
		if row.Below(40) < letters {
			tail[i] = "abcdef"[row.Below(6)]
		} else {
			tail[i] = "0123456789"[row.Below(10)]
		}
	}
	return address(string(tail))
}

// anyCase turns some of a text's letters, by chance.
func anyCase(row *chance.Row, s string) string {
	for i := 2; i < len(s); i++ {
		if isLetter(s[i]) && row.Below(2) == 0 {
			s = turned(s, i)
		}
	}
	return s
}

// tellingBytes are digits of either case, the bytes beside them, and what a lax reader might pass over.
func tellingBytes() string { return "0189afAFxX/:`g@G -+_.\x00\n\x80\xff" }

// spoilt changes a byte or some of a text, or its length.
func spoilt(row *chance.Row, s string) string {
	for range 1 + row.Below(3) {
		at := row.Below(len(s) + 1)
		behind := s[min(at+1, len(s)):]
		telling := tellingBytes()[row.Below(len(tellingBytes())):][:1]
		switch row.Below(6) {
		case 0:
			s = s[:at]
		case 1:
			s = s[:at] + telling + s[at:]
		case 2:
			s = s[:at] + behind
		case 3:
			s = s[:at] + telling + behind
		case 4:
			s = s[:at] + "0" + s[at:]
		default:
			s = s[:at] + string([]byte{byte(row.Next())}) + behind
		}
	}
	return s
}

// The helpers themselves: an error in them would hide one in the program.
func TestHelpers(t *testing.T) {
	if turned("0xaB", 2) != "0xAB" || turned("0xaB", 3) != "0xab" || lower("0xA9f") != "0xa9f" {
		t.Error("turned, lower")
	}
	for s, want := range map[string]bool{"": true, "09": true, "0a9f": true, "0A9F": true, "aB": false, "Ab": false, "0a9F": false} {
		if isOneCase(s) != want {
			t.Errorf("isOneCase(%q)", s)
		}
	}
	row := chance.Row(1)
	var letters [41]int
	for range 5000 {
		n := 0
		for _, c := range []byte(hex.EncodeToString(addressBytes(&row))) {
			if isLetter(c) {
				n++
			}
		}
		letters[n]++
	}
	if letters[0] == 0 || letters[1] == 0 || letters[2] == 0 || letters[40] == 0 {
		t.Errorf("anyAddress: letters %v", letters)
	}
}

func addressBytes(row *chance.Row) []byte {
	a := anyAddress(row)
	return a[:]
}
