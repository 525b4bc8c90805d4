package pool

import (
	"bytes"
	"cmp"

	"waybill/api"
	"waybill/u256"
)

// A new transaction takes another one's place if newPart times its price is at least oldPart times the other's: a tenth more.
const (
	newPart = 10
	oldPart = 11
)

// entry is a transaction that waits, and what the pool knows of it.
type entry struct {
	api.Tx
	raw    []byte
	hash   api.Hash
	sender api.Address
	number uint64   // of two the one with the lower number came first
	cost   api.U256 // the greatest sum that its sender may have to pay
}

// feeCap tells the most that a transaction pays for a unit of gas.
func (x *entry) feeCap() api.U256 {
	switch x.Type {
	case api.TypeLegacy, api.TypeAccess:
		return x.Price
	default:
		return x.Cap
	}
}

// feeTip tells the most that a transaction pays beside the base fee.
func (x *entry) feeTip() api.U256 {
	switch x.Type {
	case api.TypeLegacy, api.TypeAccess:
		return x.Price
	default:
		return x.Tip
	}
}

// outbids tells whether a transaction pays enough to take another one's place. (A tenth more than 0 is 0: only a greater cap will do.)
func (x *entry) outbids(old *entry) bool {
	return u256.Cmp(x.feeCap(), old.feeCap()) > 0 && isTenthMore(x.feeCap(), old.feeCap()) && isTenthMore(x.feeTip(), old.feeTip())
}

// isTenthMore tells whether a price is at least a tenth greater than another one.
func isTenthMore(price, old api.U256) bool {
	high, low := u256.Mul(price, u256.From(newPart))
	oldHigh, oldLow := u256.Mul(old, u256.From(oldPart))
	return cmp.Or(u256.Cmp(high, oldHigh), u256.Cmp(low, oldLow)) >= 0
}

// byWorth is the order in which transactions must go: the lowest cap first, of several the one that came last.
func byWorth(x, y *entry) int {
	return cmp.Or(u256.Cmp(x.feeCap(), y.feeCap()), cmp.Compare(y.number, x.number))
}

// bySender is the order of rising senders, of one sender that of rising nonces.
func bySender(x, y *entry) int {
	return cmp.Or(bytes.Compare(x.sender[:], y.sender[:]), cmp.Compare(x.Nonce, y.Nonce))
}
