package field

import (
	"waybill/api"
	"waybill/u256"
)

// Inverse tells the number that makes 1 with x.
func Inverse(k int, x api.U256) (api.U256, api.Errno) {
	f, e := of(k)
	switch {
	case e != api.OK:
		return api.U256{}, e
	case f.once(x) == (api.U256{}):
		return api.U256{}, api.ErrFieldZero
	}
	return f.inverse(x), api.OK
}

// Inverses tells all of them, with one inversion.
func Inverses(k int, list []api.U256) ([]api.U256, api.Errno) {
	f, e := of(k)
	switch {
	case e != api.OK:
		return nil, e
	case len(list) > api.MaxList:
		return nil, api.ErrLong
	}
	answers, product := f.products(list)
	if product == (api.U256{}) { // just if a factor is 0: m is a prime
		return nil, api.ErrFieldZero
	}
	back := f.inverse(product)
	for i := len(list) - 1; i >= 0; i-- { // back is the inverse of the product up to and with list[i]
		answers[i] = f.mul(answers[i], back)
		back = f.mul(back, list[i])
	}
	return answers, api.OK
}

// products tells of each number the product of those ahead of it, and the product of all.
func (f modulus) products(list []api.U256) ([]api.U256, api.U256) {
	ahead := make([]api.U256, len(list))
	product := u256.From(1)
	for i, x := range list {
		ahead[i] = product
		product = f.mul(product, x)
	}
	return ahead, product
}
