package u256

import (
	"math/bits"

	"waybill/api"
)

const (
	chunk   = 19 // as many decimal digits as every limb can hold
	chunks  = 5  // so many chunks hold every number
	longest = 78 // digits of 2^256 - 1
)

// powers holds 10^i at i.
var powers = [chunk + 1]uint64{
	1,
	10,
	100,
	1000,
	10000,
	100000,
	1000000,
	10000000,
	100000000,
	1000000000,
	10000000000,
	100000000000,
	1000000000000,
	10000000000000,
	100000000000000,
	1000000000000000,
	10000000000000000,
	100000000000000000,
	1000000000000000000,
	10000000000000000000,
}

// Text tells the decimal digits.
func Text(x api.U256) string {
	var digits [chunks * chunk]byte
	for end := len(digits) - 1; end > 0; end -= chunk {
		var rest uint64
		x, rest = divLimb(x, powers[chunk])
		for i := range chunk {
			digits[end-i] = '0' + byte(rest/powers[i]%10)
		}
	}
	first := 0
	for first < len(digits)-1 && digits[first] == '0' {
		first++
	}
	return string(digits[first:])
}

// Parse reads decimal digits.
func Parse(s string) (api.U256, api.Errno) {
	switch {
	case !isDigits(s):
		return api.U256{}, api.ErrNumDigit
	case len(s) > 1 && s[0] == '0':
		return api.U256{}, api.ErrNumLead
	case len(s) > longest:
		return api.U256{}, api.ErrNumLong
	}
	var x api.U256
	for len(s) > 0 {
		n := min(chunk, len(s))
		var over uint64
		x, over = mulAddLimb(x, powers[n], value(s[:n]))
		if over != 0 {
			return api.U256{}, api.ErrNumLong
		}
		s = s[n:]
	}
	return x, api.OK
}

func isDigits(s string) bool {
	for i := range len(s) {
		if s[i] < '0' || s[i] > '9' {
			return false
		}
	}
	return len(s) > 0
}

// value tells the number of at most a chunk of digits.
func value(digits string) uint64 {
	var v uint64
	for i := range len(digits) {
		v = v*10 + uint64(digits[i]-'0')
	}
	return v
}

// divLimb tells the quotient and the rest of x by d, which is not 0.
func divLimb(x api.U256, d uint64) (q api.U256, rest uint64) {
	for i := len(x) - 1; i >= 0; i-- {
		q[i], rest = bits.Div64(rest, x[i], d)
	}
	return q, rest
}

// mulAddLimb tells x * m + a, and what goes beyond 256 bits.
func mulAddLimb(x api.U256, m, a uint64) (api.U256, uint64) {
	for i := range x {
		a, x[i] = mulAdd(x[i], m, a, 0)
	}
	return x, a
}
