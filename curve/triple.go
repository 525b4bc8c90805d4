package curve

import (
	"waybill/api"
	"waybill/field"
	"waybill/u256"
)

// triple is a point in three numbers: x over z squared and y over z cubed. So sums of points take no division; z is 0 just of the identity.
type triple struct{ x, y, z api.U256 }

// widen tells the triple of a point.
func widen(p api.Point) triple {
	if p.Identity {
		return triple{}
	}
	return triple{p.X, p.Y, u256.From(1)}
}

func (t triple) isIdentity() bool { return t.z == api.U256{} }

// point divides, which is the dearest step: once for a whole sum.
func (t triple) point() api.Point {
	if t.isIdentity() {
		return api.Point{Identity: true}
	}
	over, _ := field.Inverse(api.FieldP, t.z)
	over2 := square(over)
	return api.Point{X: times(t.x, over2), Y: times(t.y, times(over2, over))}
}

// double takes the chapter's slope as 3 x x over 2 y z, and the latter as the new z.
func (t triple) double() triple {
	if t.isIdentity() { // the same would come of it, but not at once: each multiple begins with many of these
		return t
	}
	y2 := square(t.y)
	y4 := square(y2)
	x2 := square(t.x)
	slope := plus(twice(x2), x2)
	part := twice(twice(times(t.x, y2))) // the old x over the new z squared
	x := minus(square(slope), twice(part))
	y := minus(times(slope, minus(part, x)), twice(twice(twice(y4))))
	return triple{x, y, twice(times(t.y, t.z))}
}

// add brings both points to one z, the product of theirs, and takes the slope as rise over run there; the new z is the old one times run.
func (t triple) add(u triple) triple {
	if t.isIdentity() {
		return u
	}
	if u.isIdentity() {
		return t
	}
	t2, u2 := square(t.z), square(u.z)
	x1, y1 := times(t.x, u2), times(t.y, times(u2, u.z))
	run := minus(times(u.x, t2), x1)
	rise := minus(times(u.y, times(t2, t.z)), y1)
	if run == (api.U256{}) { // a line with one x has no slope: the points are the same or opposite
		return t.addAtSameX(rise)
	}
	run2 := square(run)
	run3 := times(run2, run)
	part := times(x1, run2)
	x := minus(minus(square(rise), run3), twice(part))
	y := minus(times(rise, minus(part, x)), times(y1, run3))
	return triple{x, y, times(times(t.z, u.z), run)}
}

// addAtSameX tells the sum of t and a point with its x, whose y is by rise above that of t.
func (t triple) addAtSameX(rise api.U256) triple {
	if rise == (api.U256{}) {
		return t.double()
	}
	return triple{}
}
