package curve

import (
	"waybill/api"
	"waybill/u256"
)

// First bytes: they tell the form, and of the short one which y is meant.
const (
	shortEven = 2
	shortOdd  = 3
	long      = 4
)

// Lengths of the two forms.
const (
	shortLen = 33
	longLen  = 65
)

// Compress tells the 33 bytes of a point.
func Compress(p api.Point) ([]byte, api.Errno) {
	if e := checkHasForm(p); e != api.OK {
		return nil, e
	}
	x := u256.Put(p.X)
	first := byte(shortEven)
	if u256.Bit(p.Y, 0) == 1 {
		first = shortOdd
	}
	return append([]byte{first}, x[:]...), api.OK
}

// Expand tells the 65 bytes of a point.
func Expand(p api.Point) ([]byte, api.Errno) {
	if e := checkHasForm(p); e != api.OK {
		return nil, e
	}
	x, y := u256.Put(p.X), u256.Put(p.Y)
	data := append([]byte{long}, x[:]...)
	return append(data, y[:]...), api.OK
}

// checkHasForm tells why there are no bytes of p.
func checkHasForm(p api.Point) api.Errno {
	switch {
	case !On(p):
		return api.ErrCurvePoint
	case p.Identity:
		return api.ErrCurveForm
	}
	return api.OK
}

// Parse reads the 33 or 65 bytes of a point.
func Parse(data []byte) (api.Point, api.Errno) {
	switch {
	case len(data) == shortLen && (data[0] == shortEven || data[0] == shortOdd):
		return parseShort(data)
	case len(data) == longLen && data[0] == long:
		return parseLong(data)
	}
	return api.Point{}, api.ErrCurveForm
}

func parseShort(data []byte) (api.Point, api.Errno) {
	x, e := coordinate(data[1:])
	if e != api.OK {
		return api.Point{}, e
	}
	return Lift(x, data[0] == shortOdd)
}

func parseLong(data []byte) (api.Point, api.Errno) {
	x, e := coordinate(data[1:shortLen])
	if e != api.OK {
		return api.Point{}, e
	}
	y, e := coordinate(data[shortLen:])
	if e != api.OK {
		return api.Point{}, e
	}
	p := api.Point{X: x, Y: y}
	if !On(p) {
		return api.Point{}, api.ErrCurvePoint
	}
	return p, api.OK
}

// coordinate reads a number of 32 bytes that is below p.
func coordinate(data []byte) (api.U256, api.Errno) {
	x, e := u256.Get(data)
	if e != api.OK || !isBelowP(x) {
		return api.U256{}, api.ErrCurveForm
	}
	return x, api.OK
}
