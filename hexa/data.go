package hexa

import (
	"strings"

	"waybill/api"
)

// Data tells bytes as 0x and two digits a byte.
func Data(b []byte) (string, api.Errno) {
	if len(b) > api.MaxInput {
		return "", api.ErrLong
	}
	return written(b), api.OK
}

// ParseData reads such a text.
func ParseData(s string) ([]byte, api.Errno) {
	if len(s) > len(front)+2*api.MaxInput {
		return nil, api.ErrLong
	}
	tail, ok := tailOf(s)
	if !ok {
		return nil, api.ErrHexForm
	}
	if len(tail)%2 != 0 {
		return nil, api.ErrHexOdd
	}
	b := make([]byte, len(tail)/2)
	read(b, tail)
	return b, api.OK
}

// HashText tells a digest as 0x and 64 digits.
func HashText(h api.Hash) string { return written(h[:]) }

// ParseHash reads such a text.
func ParseHash(s string) (api.Hash, api.Errno) {
	var h api.Hash
	tail, ok := tailOf(s)
	if !ok || len(tail) != 2*len(h) {
		return api.Hash{}, api.ErrHexForm
	}
	read(h[:], tail)
	return h, api.OK
}

// written tells bytes of any number.
func written(b []byte) string {
	var text strings.Builder
	text.Grow(len(front) + 2*len(b))
	text.WriteString(front)
	for _, c := range b {
		text.WriteByte(digits[c>>4])
		text.WriteByte(digits[c&15])
	}
	return text.String()
}

// read fills bytes from their digits, of which there are two for each.
func read(b []byte, tail string) {
	for i := range b {
		b[i] = value(tail[2*i])<<4 | value(tail[2*i+1])
	}
}
