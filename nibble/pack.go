package nibble

import "waybill/api"

// A packed row's first half: the sum of what holds of it.
const (
	even byte = 0
	odd  byte = 1
	last byte = 2 // a leaf's, behind which no other row comes
)

// Pack tells the bytes of a row of nibbles with its mark (the hex-prefix form).
func Pack(nibbles []byte, leaf bool) ([]byte, api.Errno) {
	if !isRow(nibbles) {
		return nil, api.ErrNibble
	}
	head := even << width
	if leaf {
		head |= last << width
	}
	if isOdd(nibbles) {
		head |= odd<<width | nibbles[0]
		nibbles = nibbles[1:]
	}
	data := make([]byte, 0, 1+len(nibbles)/2)
	return join(append(data, head), nibbles), api.OK
}

// Unpack reads such bytes.
func Unpack(data []byte) ([]byte, bool, api.Errno) {
	if len(data) == 0 {
		return nil, false, api.ErrNibble
	}
	half, first := data[0]>>width, data[0]&mask
	row := make([]byte, 0, 2*len(data)-1)
	switch half {
	case even, even | last:
		if first != 0 { // else one row would have sixteen packed forms
			return nil, false, api.ErrNibble
		}
	case odd, odd | last:
		row = append(row, first)
	default:
		return nil, false, api.ErrNibble
	}
	return split(row, data[1:]), half&last != 0, api.OK
}
