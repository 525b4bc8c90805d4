// Package chance feeds the tests with rows of numbers that look like chance and are the same in every run. No layer calls it.
package chance

import "waybill/api"

// Row is such a row (splitmix64); its starting value tells which one.
type Row uint64

// Next tells the row's next number.
func (r *Row) Next() uint64 {
	*r += 0x9e3779b97f4a7c15
	z := uint64(*r)
	z = (z ^ z>>30) * 0xbf58476d1ce4e5b9
	z = (z ^ z>>27) * 0x94d049bb133111eb
	return z ^ z>>31
}

// Below tells one of 0 to n-1, and 0 if there is none.
func (r *Row) Below(n int) int {
	if n <= 0 {
		return 0
	}
	return int(r.Next() % uint64(n))
}

// Text tells n bytes.
func (r *Row) Text(n int) []byte {
	text := make([]byte, max(n, 0))
	for i := range text {
		text[i] = byte(r.Next())
	}
	return text
}

// Roomy tells a text of n bytes that has room beyond its end, and the whole memory.
func (r *Row) Roomy(n int) (text, whole []byte) {
	n = max(n, 0)
	whole = r.Text(n + 300)
	return whole[:n], whole
}

// Parts cuts a text into parts of any length, some without bytes.
func (r *Row) Parts(text []byte) [][]byte {
	var parts [][]byte
	for len(text) > 0 {
		n := r.Below(min(len(text), 200) + 1)
		parts = append(parts, text[:n])
		text = text[n:]
	}
	return parts
}

// Number tells one of any length, its limbs often at an edge: there the carries and the guesses of a division go wrong.
func (r *Row) Number() api.U256 {
	var x api.U256
	for i := range r.Below(len(x)) + 1 {
		switch r.Below(8) {
		case 0:
			x[i] = 0
		case 1:
			x[i] = 1<<64 - 1
		case 2:
			x[i] = 1 << 63
		case 3:
			x[i] = r.Next() >> r.Below(64)
		default:
			x[i] = r.Next()
		}
	}
	return x
}
