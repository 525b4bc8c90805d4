package abi

import (
	"waybill/api"
	"waybill/u256"
)

// check gives up at the first thing that is wrong with a value.
func (t *shape) check(v api.Value) {
	switch t.kind {
	case wholeNumber, signedNumber:
		needNone(len(v.Data) == 0 && len(v.Items) == 0)
		needFit(t.holds(v.Num))
	case someText:
		needNone(v.Num == api.U256{} && len(v.Items) == 0)
		needFit(t.size == 0 || len(v.Data) == t.size)
	case someList:
		needNone(v.Num == api.U256{} && len(v.Data) == 0)
		needFit(t.size == 0 || len(v.Items) == t.size)
	case someTuple:
		needNone(v.Num == api.U256{} && len(v.Data) == 0)
		needFit(len(v.Items) == len(t.parts))
	}
	for i, item := range v.Items {
		t.part(i).check(item)
	}
}

// holds tells whether a number is one of the type's.
func (t *shape) holds(x api.U256) bool {
	if t.kind == signedNumber {
		// Below zero the bits of what is meant are those that are not set.
		return u256.Len(x) < t.size || u256.Len(u256.Not(x)) < t.size
	}
	return u256.Len(x) <= t.size
}

// checkRow gives up at values that are not those of a row.
func (t *shape) checkRow(values []api.Value) {
	needNone(len(values) == len(t.parts))
	for i, v := range values {
		t.parts[i].check(v)
	}
}

func needNone(none bool) {
	if !none {
		giveUp(api.ErrAbiKind)
	}
}

func needFit(fits bool) {
	if !fits {
		giveUp(api.ErrAbiWide)
	}
}
